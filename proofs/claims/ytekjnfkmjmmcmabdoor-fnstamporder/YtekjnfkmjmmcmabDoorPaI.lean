/- What ParseStamp of the program comes to, where the library's variable MaxLen holds some int. -/
import Derived.Test.YtekjnfkmjmmcmabDoorPaB
import Derived.Test.YtekjnfkmjmmcmabDoorRdI
import Derived.Test.YtekjnfkmjmmcmabDoorSplS
import Derived.Test.YtekjnfkmjmmcmabDoorStL
import Derived.Test.YtekjnfkmjmmcmabDoorShelf
namespace Go.Proofs.YtekjnfkmjmmcmabDoor.Wk
set_option linter.unusedVariables false
open Go.ChangeShapes Go.WideShapes Go.ChangeAt Go.RowKit

/-- the library's variable MaxLen holds some int -/
def MaxL (w : World) : Prop := ∃ m, w.cell? ⟨2, 0, none⟩ = some (.int .i64 m)
theorem MaxL.on {w w' : World} (h : MaxL w) (hb : Below w.heap.size w w') : MaxL w' := by
  obtain ⟨m, hm⟩ := h
  exact ⟨m, by rw [hb.cell (World.block_lt_of_cell? w _ hm)]; exact hm⟩
theorem sb_eq (s : ByteArray) : Lib.splitB ⟨#[46]⟩ 0 (Lib.countB s ⟨#[46]⟩) s = (Sm.pieces s.data.toList).map fun p => ⟨p.toArray⟩ := by
  have h := Lib.splitB_data ⟨#[46]⟩ 0 (Lib.countB s ⟨#[46]⟩) s
  have e : Lib.splitK [46] 0 (Lib.count s.data.toList [46]) s.data.toList = Sm.pieces s.data.toList := Sm.split_pieces _ _ rfl
  rw [show Lib.splitK (⟨#[46]⟩ : ByteArray).data.toList 0 (Lib.countB s ⟨#[46]⟩) s.data.toList = Sm.pieces s.data.toList from e] at h
  rw [← h, List.map_map]
  have id' : ((fun p : List UInt8 => (⟨p.toArray⟩ : ByteArray)) ∘ fun x : ByteArray => x.data.toList) = id := by funext x; rfl
  rw [id', List.map_id]
theorem splitC (s : ByteArray) (w : World) (hs : s.size ≤ 1048576) (hm : MaxL w) :
    Calls Tryd.prog 25 #[.string s, .string ⟨#[46]⟩] w fun e w' => e = .returned (.slice (some ⟨w.heap.size, 0, none⟩) (Sm.pieces s.data.toList).length (Sm.pieces s.data.toList).length) ∧ RdT w' (some ⟨w.heap.size, 0, none⟩) (Sm.pieces s.data.toList) ∧ Below w.heap.size w w' := by
  obtain ⟨m, hm⟩ := hm
  refine (Tryd.strings_Split s ⟨#[46]⟩ m w (by omega) hm (by decide)).mono ?_
  rintro e w' ⟨rfl, rfl⟩
  have hc : Lib.countB s ⟨#[46]⟩ + 1 = (Sm.pieces s.data.toList).length := (Sm.count_pieces s.data.toList).symm
  rw [sb_eq, hc]
  refine ⟨rfl, ?_, bel1 _ _⟩
  intro i hi
  refine ⟨w.heap.size, 0, rfl, ?_⟩
  rw [Nat.zero_add, World.cell?_alloc_at _ _ _ _ rfl]
  simp [hi]

set_option maxHeartbeats 2000000 in
set_option maxRecDepth 100000 in
theorem implParse (s : ByteArray) (w : World) (hs : s.size ≤ 1048576) (hm : MaxL w) :
    Calls Tryd.prog 11 #[.string s] w fun e w' => e = .returned (paV (Sm.parse s.data.toList)) ∧ Below w.heap.size w w' := by
  have hlen : s.data.toList.length = s.size := by simp
  have r0 := slotNew w 0 0 0 25
  have hm0 := hm.on (bel1 w (.cells #[.int .i64 0, .int .i64 0, .int .i64 0] 25))
  by_cases h3 : (Sm.pieces s.data.toList).length = 3
  · obtain ⟨p0, p1, p2, hp⟩ := three_of h3
    have hl := pieces_len s.data.toList
    rw [hp] at hl
    have l0 := hl p0 (by simp)
    have l1 := hl p1 (by simp)
    have l2 := hl p2 (by simp)
    have c0 := fun w => readNum ⟨p0.toArray⟩ 1000000000 w (by decide) (by rw [show (⟨p0.toArray⟩ : ByteArray).size = p0.length from by simp [ByteArray.size]]; omega)
    have c1 := fun w => readNum ⟨p1.toArray⟩ 1000000 w (by decide) (by rw [show (⟨p1.toArray⟩ : ByteArray).size = p1.length from by simp [ByteArray.size]]; omega)
    have c2 := fun w => readNum ⟨p2.toArray⟩ 20 w (by decide) (by rw [show (⟨p2.toArray⟩ : ByteArray).size = p2.length from by simp [ByteArray.size]]; omega)
    have cs := fun w => splitC s w hs
    rw [hp] at cs
    have HR := parse_three hp
    simp only at c0 c1 c2
    rw [HR]
    clear HR hp hl h3 l0 l1 l2
    generalize Sm.rd 1000000000 p0 = R0 at c0
    generalize Sm.rd 1000000 p1 = R1 at c1
    generalize Sm.rd 20 p2 = R2 at c2
    go_enter Tryd.func11, Tryd.ntmps11
    go_wp2_with fail
    refine (cs _ hm0).mono ?_
    rintro e w1 ⟨rfl, hrd, hb1⟩
    simp only [World.size_alloc] at hrd
    have hB1 := behind (bel1 _ _) hb1
    have r1 := r0.below hb1
    obtain ⟨b, off, he, m0⟩ := hrd 0 (by simp)
    simp only [Option.some.injEq, Addr.mk.injEq, and_true] at he
    obtain ⟨rfl, rfl⟩ := he
    obtain ⟨b', off', he, m1⟩ := hrd 1 (by simp)
    simp only [Option.some.injEq, Addr.mk.injEq, and_true] at he
    obtain ⟨rfl, rfl⟩ := he
    obtain ⟨b', off', he, m2⟩ := hrd 2 (by simp)
    simp only [Option.some.injEq, Addr.mk.injEq, and_true] at he
    obtain ⟨rfl, rfl⟩ := he
    simp only [Nat.add_zero, Nat.zero_add, List.getElem_cons_zero, List.getElem_cons_succ] at m0 m1 m2
    clear hrd cs
    obtain ⟨⟨z0, z1, z2⟩, f0, f1, f2⟩ := id r1
    rcases R0 with _ | t <;> rcases R1 with _ | q <;> rcases R2 with _ | n
    all_goals
      simp only [rdV] at c0 c1 c2
      go_wp2_with (first | (go_at_call_of 26 (Value.string ⟨p0.toArray⟩); refine (c0 _).mono ?_; rintro e w2 ⟨rfl, rfl⟩) | (go_at_call_of 26 (Value.string ⟨p1.toArray⟩); refine (c1 _).mono ?_; rintro e w2 ⟨rfl, rfl⟩) | (go_at_call_of 26 (Value.string ⟨p2.toArray⟩); refine (c2 _).mono ?_; rintro e w2 ⟨rfl, rfl⟩))
      first
        | (obtain ⟨⟨q0, q1, q2⟩, -⟩ := r1.set (t : Int) (q : Int) (n : Int)
           exact bodyPost_ret (v := paV (some (t, q, n))) (by simp [paV, results, Tryd.results11, go_sem, q0, q1, q2]) rfl ⟨rfl, set3 hB1 (Nat.le_refl _)⟩)
        | (obtain ⟨⟨q0, q1, q2⟩, -⟩ := r1.set 0 0 0
           exact bodyPost_ret (v := paV none) (by simp [paV, results, Tryd.results11, go_sem, q0, q1, q2]) rfl ⟨rfl, set3 hB1 (Nat.le_refl _)⟩)
  · have hRn := parse_few h3
    rw [hRn]
    clear hRn
    have cs := fun w => splitC s w hs
    generalize Sm.pieces s.data.toList = P at h3 cs
    have h3b : (((P.length : Nat) : Int) == 3) = false := by simp; omega
    go_enter Tryd.func11, Tryd.ntmps11
    go_wp2_with fail
    refine (cs _ hm0).mono ?_
    rintro e w1 ⟨rfl, hrd, hb1⟩
    have hB1 := behind (bel1 _ _) hb1
    have r1 := r0.below hb1
    obtain ⟨⟨q0, q1, q2⟩, -⟩ := r1.set 0 0 0
    obtain ⟨⟨z0, z1, z2⟩, f0, f1, f2⟩ := id r1
    clear hrd cs r0 r1 hb1
    go_wp2
    exact bodyPost_ret (v := paV none) (by simp [paV, results, Tryd.results11, go_sem, q0, q1, q2]) rfl ⟨rfl, set3 hB1 (Nat.le_refl _)⟩
end Go.Proofs.YtekjnfkmjmmcmabDoor.Wk
