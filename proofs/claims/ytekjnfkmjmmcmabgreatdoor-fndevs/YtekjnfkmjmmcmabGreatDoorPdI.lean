/- What ParseDevs of the program comes to, where the library's variables read as they were laid. -/
import Derived.Test.YtekjnfkmjmmcmabGreatDoorPwM
import Derived.Test.YtekjnfkmjmmcmabGreatDoorSpI
import Derived.Test.YtekjnfkmjmmcmabGreatDoorRdI
import Derived.Test.YtekjnfkmjmmcmabGreatDoorStR
import Derived.Test.YtekjnfkmjmmcmabGreatDoorDvI
import Derived.Test.YtekjnfkmjmmcmabGreatDoorAsW
import Derived.Deep.AppendLies
namespace Go.Proofs.YtekjnfkmjmmcmabGreatDoor.Wk
set_option linter.unusedVariables false
open Go.ChangeShapes Go.WideShapes Go.ChangeAt Go.RowKit

/-- a slot behind any new block: its cells, and its cells when noughts are stored -/
theorem Slot.anew {w : World} {b : Nat} {t q n : Int} (h : Slot w b t q n) :
    ((∀ o, (w.alloc o).cell? ⟨b, 0, none⟩ = some (.int .i64 t)) ∧ (∀ o, (w.alloc o).cell? ⟨b, 1, none⟩ = some (.int .i64 q)) ∧ (∀ o, (w.alloc o).cell? ⟨b, 2, none⟩ = some (.int .i64 n))) ∧
    ((∀ o, (w.alloc o).frozen? ⟨b, 0, none⟩ = false) ∧ (∀ o, (w.alloc o).frozen? ⟨b, 1, none⟩ = false) ∧ (∀ o, (w.alloc o).frozen? ⟨b, 2, none⟩ = false)) ∧
    (∀ o, Slot ((((w.alloc o).setCell ⟨b, 0, none⟩ (.int .i64 0)).setCell ⟨b, 1, none⟩ (.int .i64 0)).setCell ⟨b, 2, none⟩ (.int .i64 0)) b 0 0 0) :=
  have k := fun o => h.below (bel1 w o)
  ⟨⟨fun o => (k o).1.1, fun o => (k o).1.2.1, fun o => (k o).1.2.2⟩, ⟨fun o => (k o).2.1, fun o => (k o).2.2.1, fun o => (k o).2.2.2⟩, fun o => (k o).set 0 0 0⟩
theorem szD (l : List UInt8) : (⟨l.toArray⟩ : ByteArray).size = l.length := by simp [ByteArray.size]
set_option maxHeartbeats 2000000 in
set_option maxRecDepth 100000 in
theorem implReadDev (s : ByteArray) (w : World) (hs : s.size ≤ 1048576) (hm : MaxD w) :
    Calls Tryz.prog 33 #[.string s] w fun e w' => ((∃ i z n : Nat, Dv.wordI s.data.toList = some ((i : Int), (z : Int), (n : Int)) ∧ e = .returned (.tuple #[.agg #[.int .i64 (i : Int), .int .i64 (z : Int), .int .i64 (n : Int)], .nilIface])) ∨
      (Dv.wordI s.data.toList = none ∧ ∃ p : Addr, e = .returned (.tuple #[.agg #[.int .i64 0, .int .i64 0, .int .i64 0], .iface 50 (.pointer (some p))]))) ∧ Below w.heap.size w w' := by
  have hlen : s.data.toList.length = s.size := by simp
  have r0 := slotNew w 0 0 0 34
  have hm0 := hm.on (bel1 w (.cells #[.int .i64 0, .int .i64 0, .int .i64 0] 34))
  by_cases h3 : (Pc.pieces 58 s.data.toList).length = 3
  · obtain ⟨p0, p1, p2, hp⟩ := Dv.three h3
    have hl := Pc.pieces_len 58 s.data.toList
    rw [hp] at hl
    have l0 := hl p0 (by simp)
    have l1 := hl p1 (by simp)
    have l2 := hl p2 (by simp)
    have c0 := fun w => readNum ⟨p0.toArray⟩ 20 w (by decide) (by rw [szD]; omega)
    have c1 := fun w => readNum ⟨p1.toArray⟩ 20 w (by decide) (by rw [szD]; omega)
    have c2 := fun w => readNum ⟨p2.toArray⟩ 1000 w (by decide) (by rw [szD]; omega)
    have cs := fun w => splitD 58 s w hs
    rw [hp] at cs
    have HR := Dv.wordI_three hp
    simp only at c0 c1 c2
    rw [HR]
    clear HR hp hl h3 l0 l1 l2
    generalize Sm.rd 20 p0 = R0 at c0
    generalize Sm.rd 20 p1 = R1 at c1
    generalize Sm.rd 1000 p2 = R2 at c2
    go_enter Tryz.func33, Tryz.ntmps33
    go_wp2_with fail
    refine (cs _ hm0).mono ?_
    rintro e w1 ⟨rfl, hrd, hb1⟩
    simp only [World.size_alloc] at hrd
    have hB1 := behind (bel1 _ _) hb1
    have r1 := r0.below hb1
    obtain ⟨b, off, he, m0⟩ := hrd 0 (by simp)
    simp only [Option.some.injEq, Addr.mk.injEq, and_true] at he
    obtain ⟨rfl, rfl⟩ := he
    obtain ⟨b', off', he, m1⟩ := hrd 1 (by simp)
    simp only [Option.some.injEq, Addr.mk.injEq, and_true] at he
    obtain ⟨rfl, rfl⟩ := he
    obtain ⟨b', off', he, m2⟩ := hrd 2 (by simp)
    simp only [Option.some.injEq, Addr.mk.injEq, and_true] at he
    obtain ⟨rfl, rfl⟩ := he
    simp only [Nat.add_zero, Nat.zero_add, List.getElem_cons_zero, List.getElem_cons_succ] at m0 m1 m2
    clear hrd cs
    rcases R0 with _ | t <;> rcases R1 with _ | q <;> rcases R2 with _ | n
    case some.some.some =>
      obtain ⟨⟨z0, z1, z2⟩, f0, f1, f2⟩ := id r1
      simp only [rdV] at c0 c1 c2
      go_wp2_with (first | (go_at_call_of 46 (Value.string ⟨p0.toArray⟩); refine (c0 _).mono ?_; rintro e w2 ⟨rfl, rfl⟩) | (go_at_call_of 46 (Value.string ⟨p1.toArray⟩); refine (c1 _).mono ?_; rintro e w2 ⟨rfl, rfl⟩) | (go_at_call_of 46 (Value.string ⟨p2.toArray⟩); refine (c2 _).mono ?_; rintro e w2 ⟨rfl, rfl⟩))
      obtain ⟨⟨q0, q1, q2⟩, -⟩ := r1.set (t : Int) (q : Int) (n : Int)
      exact bodyPost_ret (v := .tuple #[.agg #[.int .i64 (t : Int), .int .i64 (q : Int), .int .i64 (n : Int)], .nilIface]) (by simp [results, Tryz.results33, go_sem, q0, q1, q2]) rfl ⟨.inl ⟨t, q, n, rfl, rfl⟩, set3 hB1 (Nat.le_refl _)⟩
    all_goals
      obtain ⟨⟨z0, z1, z2⟩, ⟨f0, f1, f2⟩, hset⟩ := r1.anew
      simp only [rdV] at c0 c1 c2
      go_wp2_with (first | (go_at_call_of 46 (Value.string ⟨p0.toArray⟩); refine (c0 _).mono ?_; rintro e w2 ⟨rfl, hw2⟩; obtain rfl := hw2.symm) | (go_at_call_of 46 (Value.string ⟨p1.toArray⟩); refine (c1 _).mono ?_; rintro e w2 ⟨rfl, hw2⟩; obtain rfl := hw2.symm) | (go_at_call_of 46 (Value.string ⟨p2.toArray⟩); refine (c2 _).mono ?_; rintro e w2 ⟨rfl, hw2⟩; obtain rfl := hw2.symm))
      exact bodyPost_ret (v := .tuple #[.agg #[.int .i64 0, .int .i64 0, .int .i64 0], .iface 50 (.pointer (some ⟨w1.heap.size, 0, none⟩))]) (by simp [results, Tryz.results33, go_sem, (hset _).1.1, (hset _).1.2.1, (hset _).1.2.2]) rfl ⟨.inr ⟨rfl, _, rfl⟩, set3 (behind hB1 (bel1 _ _)) (Nat.le_refl _)⟩
  · have hRn := Dv.wordI_few h3
    rw [hRn]
    clear hRn
    have cs := fun w => splitD 58 s w hs
    generalize Pc.pieces 58 s.data.toList = P at h3 cs
    have h3b : (((P.length : Nat) : Int) == 3) = false := by simp; omega
    go_enter Tryz.func33, Tryz.ntmps33
    go_wp2_with fail
    refine (cs _ hm0).mono ?_
    rintro e w1 ⟨rfl, hrd, hb1⟩
    have hB1 := behind (bel1 _ _) hb1
    have r1 := r0.below hb1
    obtain ⟨⟨z0, z1, z2⟩, ⟨f0, f1, f2⟩, hset⟩ := r1.anew
    clear hrd cs r0 hb1
    go_wp2
    exact bodyPost_ret (v := .tuple #[.agg #[.int .i64 0, .int .i64 0, .int .i64 0], .iface 50 (.pointer (some ⟨w1.heap.size, 0, none⟩))]) (by simp [results, Tryz.results33, go_sem, (hset _).1.1, (hset _).1.2.1, (hset _).1.2.2]) rfl ⟨.inr ⟨trivial, _, rfl⟩, set3 (behind hB1 (bel1 _ _)) (Nat.le_refl _)⟩

theorem three_at2 {wr : World} {o : Obj} {a b c : Value} {T : TypeId} : ∀ j u, [a, b, c][j]? = some u → ((wr.alloc o).alloc (.cells #[a, b, c] T)).cell? ((⟨wr.heap.size + 1, 0, none⟩ : Addr).add j) = some u := by
  have h := @three_at (wr.alloc o) a b c T
  rw [World.size_alloc] at h
  exact h
theorem formD {w : World} {base n : Nat} {e : TypeId} {v : Value} {xs : List Value} (h : w.ownsRow base e 3 v (n + 1) xs) : ∃ g cap, v = .slice (some ⟨g, 0, none⟩) (n + 1) cap := by
  rcases h.2 with ⟨rfl, h0⟩ | ⟨g, cap, cur, rfl, hb, _⟩
  · omega
  · exact ⟨g, cap, rfl⟩
theorem grownP {w w1 w2 : World} {r : Option Nat} (h : w.grownBy w1 r) (k : w1.grownBy w2 r) : w.grownBy w2 r :=
  ⟨k.os.trans h.os, k.tape.trans h.tape, k.output.trans h.output, Nat.le_trans h.size k.size, fun i hi hn => (k.block i (Nat.lt_of_lt_of_le hi h.size) hn).trans (h.block i hi hn)⟩
theorem RdTC.grownP {w w' : World} {a : Addr} {D : List (List UInt8)} {r : Option Nat} (h : RdTC w (some a) D) (hg : w.grownBy w' r) (hne : some a.block ≠ r) : RdTC w' (some a) D := by
  intro i hi
  obtain ⟨b, off, ha, hc⟩ := h i hi
  have e := Option.some.inj ha
  subst e
  exact ⟨b, off, rfl, by rw [hg.cell_far _ (World.block_lt_of_cell? w _ hc) hne]; exact hc⟩

theorem Ss_head : ∀ (X : List Sm.St) (i z n : Int), ∃ t : Int, (Ss X ++ [.int .i64 i, .int .i64 z, .int .i64 n])[0]? = some (.int .i64 t)
  | [], i, z, n => ⟨i, rfl⟩
  | x :: r, i, z, n => ⟨x.1, rfl⟩
/-- a row of numbers is none of texts -/
theorem rows_apart {w : World} {base m : Nat} {e : TypeId} {v : Value} {X : List Sm.St} {i z n : Int} {b : Nat} {D : List (List UInt8)} (h : w.ownsRow base e 3 v (m + 1) (Ss X ++ [.int .i64 i, .int .i64 z, .int .i64 n])) (hr : RdTC w (some ⟨b, 0, none⟩) D) (hD : 1 ≤ D.length) : some b ≠ v.ownBlock := by
  intro he
  obtain ⟨g, cp, rfl⟩ := formD h
  simp [Value.ownBlock] at he
  subst he
  obtain ⟨t, ht⟩ := Ss_head X i z n
  have h1 := h.cellAt 0 (by omega)
  rw [ht] at h1
  obtain ⟨b', off, he, hc⟩ := hr 0 (by omega)
  simp only [Option.some.injEq, Addr.mk.injEq, and_true] at he
  obtain ⟨rfl, rfl⟩ := he
  rw [h1] at hc
  cases hc

set_option maxHeartbeats 4000000 in
set_option maxRecDepth 100000 in
theorem implReadDevs (s : ByteArray) (w : World) (hs : s.size ≤ 1048576) (hm : MaxD w) :
    Calls Tryz.prog 20 #[.string s] w fun e w' => ((∃ (X : List Sm.St) (g cp : Nat), Dv.parse s.data.toList = some X ∧ e = .returned (.tuple #[.slice (some ⟨g, 0, none⟩) X.length cp, .nilIface]) ∧ X.length ≤ 12 ∧ w'.ownsRow w.heap.size 34 3 (.slice (some ⟨g, 0, none⟩) X.length cp) X.length (Ss X)) ∨
      (Dv.parse s.data.toList = none ∧ ∃ p : Addr, e = .returned (.tuple #[.slice none 0 0, .iface 50 (.pointer (some p))]))) ∧ Below w.heap.size w w' := by
  have hlen : s.data.toList.length = s.size := by simp
  have hcut := splitD 32 s
  obtain ⟨R, hR⟩ : ∃ R, Dv.parse s.data.toList = R := ⟨_, rfl⟩
  have HS : Hid (∀ k (hk : k < (Pc.pieces 32 s.data.toList).length), Dv.wordI (Pc.pieces 32 s.data.toList)[k] = none → R = none) := fun k hk h => hR ▸ Dv.parse_noI hk h
  have HE : Hid (∀ k X, ¬ k < (Pc.pieces 32 s.data.toList).length → Dv.words ((Pc.pieces 32 s.data.toList).take k) = some X → R = if Dv.devs X = true then some X else none) := fun k X hk h => hR ▸ Dv.parse_end hk h
  have HL : Hid (∀ p ∈ Pc.pieces 32 s.data.toList, p.length ≤ 1048576) := fun p hp => by have := Pc.pieces_len 32 s.data.toList p hp; omega
  have hW : (Pc.pieces 32 s.data.toList).length ≤ 1048577 := by have := Pc.pieces_few 32 s.data.toList; omega
  have hW1 : 1 ≤ (Pc.pieces 32 s.data.toList).length := by
    have := Pc.pieces_ne 32 s.data.toList
    cases h : Pc.pieces 32 s.data.toList with
    | nil => exact absurd h this
    | cons a r => simp
  rw [hR]
  clear hR
  generalize Pc.pieces 32 s.data.toList = W at hcut HS HE HL hW hW1
  obtain ⟨i0, hi, hz0, hz1, hz2⟩ := info_parts infoDv
  have hown1 : (w.alloc (.cells #[] 34)).ownsRow w.heap.size 34 3 (.slice (some ⟨w.heap.size, 0, none⟩) 0 0) 0 [] := World.ownsRow_made w #[] 0 (Nat.le_refl _) (Nat.zero_le _) rfl
  go_enter Tryz.func20, Tryz.ntmps20
  go_wp2_with fail
  refine (hcut _ hs (hm.on (bel1 _ _))).mono ?_
  rintro e w1 ⟨rfl, hrd, hb1⟩
  simp only [World.size_alloc] at hrd
  have hown1' := ownOn hown1 hb1
  have hB1 := behind (bel1 _ _) hb1
  go_wp2
  clear hown1 hcut
  go_loopw [4, 13] (fun v i wr => ∃ (k : Nat) (X : List Sm.St), k ≤ W.length ∧ X.length = k ∧ i = .int .i64 k ∧ Hid (Dv.words (W.take k) = some X) ∧ wr.ownsRow w.heap.size 34 3 v X.length (Ss X) ∧ RdTC wr (some ⟨w.heap.size + 1, 0, none⟩) W ∧ some (w.heap.size + 1) ≠ v.ownBlock ∧ Below w.heap.size w wr ∧ w.heap.size + 1 < wr.heap.size) (fun _ i _ => W.length - (intOf i).toNat)
  case atStart => exact ⟨0, [], Nat.zero_le _, rfl, rfl, rfl, hown1', hrd, by simp [Value.ownBlock], hB1, by obtain ⟨b, off, he, hc⟩ := hrd 0 hW1; have := World.block_lt_of_cell? _ _ hc; cases he; exact this⟩
  case round =>
    obtain ⟨k, X, hk, hX, rfl, HX, hown, hrd', hne, hb, hsz⟩ := hrel
    clear hown1' hB1 hrd hb1
    by_cases hlt : k < W.length
    · obtain ⟨b, off, he, hcell⟩ := hrd' k hlt
      simp only [Option.some.injEq, Addr.mk.injEq, and_true] at he
      obtain ⟨rfl, rfl⟩ := he
      have hp := HL.out _ (List.getElem_mem hlt)
      have HSk := HS.out k hlt
      have HXk := fun x h => Dv.words_step (x := x) hlt HX.out h
      obtain ⟨p, hpe⟩ : ∃ p, W[k] = p := ⟨_, rfl⟩
      rw [hpe] at hcell hp HSk HXk
      have hs1 : Hid (Dv.wordI p = none → R = none) := HSk
      have hx1 : Hid (∀ x, Dv.word p = some x → Dv.words (W.take (k + 1)) = some (X ++ [x])) := HXk
      have cR := implReadDev ⟨p.toArray⟩ wr (by rw [szD]; exact hp) (hm.on hb)
      simp only at cR
      clear HSk HXk hpe HX
      rw [Nat.zero_add] at hcell
      go_wp2_with fail
      refine cR.mono ?_
      rintro e w2 ⟨hcase, hb2⟩
      have hown2 := ownOn hown hb2
      have hB2 := behind hb hb2
      have hrd2 := hrd'.below hb2
      have hs2 := hb2.size
      clear cR
      rcases hcase with ⟨i, z, n, hw, rfl⟩ | ⟨hw, q, rfl⟩
      · have HT : Hid (Dv.words (W.take (k + 1)) = some (X ++ [((i : Int), (z : Int), (n : Int))])) := hx1.out _ (Dv.wordI_some hw)
        clear hs1 hx1 hw hcell
        have hown3 := World.ownsRow.alloc hown2 (.cells #[.int .i64 (i : Int), .int .i64 (z : Int), .int .i64 (n : Int)] 34)
        go_wp2_with (at_builtin; refine wpList_append_own _ rfl (.tmp 25) (.tmp 27) 24 rfl w.heap.size 34 i0 _ 3 24 Tryz.underlying24 hi hz0 hz1 hz2 rfl (by decide) _ _ _ rfl (World.ownsRow.alloc hown3 _) ⟨_, 0, none⟩ 1 1 [.int .i64 (i : Int), .int .i64 (z : Int), .int .i64 (n : Int)] rfl rfl three_at2 three_one (by unfold maxLen; omega) (by omega) (by simp; omega) ?_; intro v4 w4 hown4 hgrow4 hnil4)
        have hgA : w2.grownBy w4 u4.ownBlock := grownP (grownP (World.grownBy_alloc w2 _ u4.ownBlock) (World.grownBy_alloc _ _ u4.ownBlock)) hgrow4
        have hlo : ∀ j, u4.ownBlock = some j → w.heap.size ≤ j := fun j e => (World.ownsRow.lt hown j e).1
        have hrd4 := hrd2.grownP hgA hne
        have hB4 : Below w.heap.size w w4 := hB2.grown hgA (by omega) hlo
        have hne4 := rows_apart hown4 hrd4 hW1
        have ho4 : w4.ownsRow w.heap.size 34 3 v4 (X ++ [((i : Int), (z : Int), (n : Int))]).length (Ss (X ++ [((i : Int), (z : Int), (n : Int))])) := by
          rw [Ss_snoc, List.length_append]; exact hown4
        have hs4 := hgA.size
        clear hown4 hgrow4 hnil4 hown3 hown2 hown hgA
        go_wp2
        go_roundw
        case rel => exact ⟨k + 1, X ++ [((i : Int), (z : Int), (n : Int))], by omega, by simp; omega, by go_num, HT, ho4, hrd4, hne4, hB4, by omega⟩
        case measure => simp [intOf]; omega
      · have e := hs1.out hw
        subst e
        clear hs1 hx1
        go_wp2
        go_ret2
        exact ⟨⟨q, rfl⟩, behind hB2 (bel1 _ _)⟩
    · have hE := HE.out k X hlt HX.out
      obtain ⟨m, hm1⟩ : ∃ m, X.length = m + 1 := ⟨X.length - 1, by omega⟩
      obtain ⟨g, cp, hv⟩ := formD (by rw [hm1] at hown; exact hown)
      rw [← hm1] at hv
      subst hv
      have hrX := (Ss_row X).rd hown
      have cD := implDevs (some ⟨g, 0, none⟩) cp X wr (by omega) hrX
      clear HE HS HL HX hne hm1 hX
      cases hD : Dv.devs X with
      | true =>
        have h12 := (Dv.devs_dev hD).1.2
        rw [hD] at hE cD
        rw [if_pos rfl] at hE
        have HR : Hid (R = some X) := hE
        clear hD hE
        go_wp2_with fail
        refine cD.mono ?_
        rintro e w3 ⟨rfl, hb3⟩
        have ho3 := ownOn hown hb3
        go_wp2
        go_ret2
        exact ⟨.inl ⟨X, g, cp, HR.out, rfl, h12, ho3⟩, behind hb hb3⟩
      | false =>
        rw [hD] at hE cD
        rw [if_neg (by simp)] at hE
        have HR : Hid (R = none) := hE
        clear hD hE
        go_wp2_with fail
        refine cD.mono ?_
        rintro e w3 ⟨rfl, hb3⟩
        go_wp2
        go_ret2
        exact ⟨.inr ⟨HR.out, _, rfl⟩, behind (behind hb hb3) (bel1 _ _)⟩

/-- the library's handle of the type error is as it was laid -/
def ErrT (w : World) : Prop := w.cell? ⟨0, 0, none⟩ = some (rt 47)
theorem ErrT.on {w w' : World} (h : ErrT w) (hb : Below w.heap.size w w') : ErrT w' := by
  unfold ErrT at h ⊢
  rw [hb.cell (World.block_lt_of_cell? w _ h)]
  exact h

set_option maxHeartbeats 2000000 in
set_option maxRecDepth 100000 in
theorem implParseD (s : ByteArray) (w : World) (hs : s.size ≤ 1048576) (hm : MaxD w) (hE : ErrT w) :
    Calls Tryz.prog 9 #[.string s] w fun e w' => ∃ (g cp : Nat), e = .returned (.tuple #[.slice (some ⟨g, 0, none⟩) ((Dv.parse s.data.toList).getD []).length cp, .bool (Dv.parse s.data.toList).isSome]) ∧ ((Dv.parse s.data.toList).getD []).length ≤ 12 ∧
      w'.ownsRow w.heap.size 34 3 (.slice (some ⟨g, 0, none⟩) ((Dv.parse s.data.toList).getD []).length cp) ((Dv.parse s.data.toList).getD []).length (Ss ((Dv.parse s.data.toList).getD [])) ∧ Below w.heap.size w w' := by
  have cR := implReadDevs s w hs hm
  generalize Dv.parse s.data.toList = R at cR
  go_enter Tryz.func9, Tryz.ntmps9
  go_wp2_with fail
  refine cR.mono ?_
  rintro e w1 ⟨hcase, hb1⟩
  clear cR
  rcases hcase with ⟨X, g, cp, rfl, rfl, h12, hown⟩ | ⟨rfl, p, rfl⟩
  · go_wp2_with fail
    refine (asNil _ _).mono ?_
    rintro e w2 ⟨rfl, hw2⟩
    subst hw2
    go_wp2
    go_ret2
    exact ⟨g, cp, rfl, h12, World.ownsRow.alloc hown _, behind hb1 (bel1 _ _)⟩
  · have hB1 := behind hb1 (bel1 w1 (.cells #[.pointer none] 50))
    go_wp2_with fail
    refine (asHit p ⟨w1.heap.size, 0, none⟩ (.pointer none) _ (hE.on hB1) (by rw [World.cell?_alloc_at _ _ _ _ rfl]; rfl) (World.frozen?_alloc_at _ _ _ _ rfl)).mono ?_
    rintro e w2 ⟨rfl, hb2⟩
    have hB2 := hB1.trans (hb2 w.heap.size hb1.size hB1.size)
    go_wp2
    go_ret2
    exact ⟨_, _, rfl, Nat.zero_le _, World.ownsRow_made w2 #[] 0 hB2.size (Nat.zero_le _) rfl, hB2.alloc hB2.size _⟩
end Go.Proofs.YtekjnfkmjmmcmabGreatDoor.Wk
