/- What Build of the program comes to. -/
import Derived.Test.YtcejeiakgmamdacBsI
import Derived.Test.YtcejeiakgmamdacRkI
import Derived.Test.YtcejeiakgmamdacOwM
import Derived.Laws.MakeOwn
import Derived.Laws.OwnMore
import Derived.Deep.AppendLies
import Derived.Deep.RegionLaw
namespace Go.Proofs.Ytcejeiakgmamdac.Rg
set_option linter.unusedVariables false
/-- so many parts in all, those behind with nothing in them -/
def pad (n : Nat) (ps : List (List Int)) : List (List Int) := ps ++ List.replicate (n - ps.length) []
theorem pad_len {n : Nat} {ps : List (List Int)} (h : ps.length ≤ n) : (pad n ps).length = n := by simp [pad]; omega
theorem pad_full {n : Nat} {ps : List (List Int)} (h : ps.length = n) : pad n ps = ps := by simp [pad, h]
theorem pad_at {n : Nat} {ps : List (List Int)} {p : List Int} (h : ps.length < (pad n (ps ++ [p])).length) : (pad n (ps ++ [p]))[ps.length] = p := by
  have e : (pad n (ps ++ [p]))[ps.length]? = some p := by simp [pad]
  rw [List.getElem?_eq_getElem h] at e
  exact Option.some.inj e
theorem pad_set {n : Nat} {ps : List (List Int)} {p q : List Int} : (pad n (ps ++ [p])).set ps.length q = pad n (ps ++ [q]) := by
  simp [pad, List.append_assoc]
theorem pad_new {n : Nat} {ps : List (List Int)} (h : ps.length < n) : pad n ps = pad n (ps ++ [[]]) := by
  obtain ⟨m, hm⟩ : ∃ m, n - ps.length = m + 1 := ⟨n - ps.length - 1, by omega⟩
  have h2 : n - (ps ++ [[]]).length = m := by simp; omega
  unfold pad
  rw [hm, h2, List.replicate_succ]
  simp
theorem load_none (m : Nat) (id : Int) : load (List.replicate m []) id = 0 := by
  induction m with
  | zero => rfl
  | succ m ih =>
    rw [List.replicate_succ]
    simp only [load, List.map_cons, List.sum_cons, List.count_nil, Nat.zero_add] at ih ⊢
    exact ih
theorem load_pad (n : Nat) (ps : List (List Int)) (id : Int) : load (pad n ps) id = load ps id := by
  unfold pad
  have h := load_none (n - ps.length) id
  simp only [load, List.map_append, List.sum_append] at h ⊢
  omega
theorem bstep_load {ps qs : List (List Int)} (h : ∀ id, load ps id = load qs id) (p Z : List Int) : bstep ps p Z = bstep qs p Z := by
  funext s d
  unfold bstep
  split
  · rfl
  · cases s with
    | none => rfl
    | some x =>
      obtain ⟨b, f⟩ := x
      dsimp only
      rw [h, h]
theorem best_pad (n : Nat) (ps : List (List Int)) (p : List Int) (l : List Sm.St) : best (pad n ps) p l = best ps p l := by
  unfold best bfold
  rw [bstep_load (load_pad n ps)]
end Go.Proofs.Ytcejeiakgmamdac.Rg
namespace Go.Proofs.Ytcejeiakgmamdac.Wk
set_option linter.unusedVariables false
open Go.ChangeShapes Go.WideShapes Go.ChangeAt Go.RowKit

theorem tot_pad (n : Nat) (ps : List (List Int)) : tot (Rg.pad n ps) = tot ps := by
  have h : ∀ m, tot (List.replicate m []) = 0 := fun m => by
    induction m with
    | zero => rfl
    | succ m ih => rw [List.replicate_succ]; simp only [tot, List.map_cons, List.sum_cons, List.length_nil, Nat.zero_add] at ih ⊢; exact ih
  unfold Rg.pad
  rw [tot_append, h]
  omega
theorem tot_constI (ps : List (List Int)) (n : Nat) (h : ∀ p ∈ ps, p.length = n) : tot ps = ps.length * n := by
  induction ps with
  | nil => simp [tot]
  | cons p r ih =>
    have h1 := ih (fun q hq => h q (List.mem_cons_of_mem _ hq))
    have h2 := h p List.mem_cons_self
    simp only [tot, List.map_cons, List.sum_cons, List.length_cons] at h1 ⊢
    rw [h1, h2, Nat.succ_mul]
    omega
theorem tot_grow (l : List Sm.St) (reps k j : Nat) (hk : k ≤ 64) (hr : reps ≤ 5) (hj : j ≤ 5) : tot (Rg.parts l reps k ++ [Rg.grow l (Rg.parts l reps k) j]) ≤ 1048576 := by
  rw [tot_append, tot_constI _ reps (Rg.parts_each l reps k), Rg.parts_len]
  have h1 : tot [Rg.grow l (Rg.parts l reps k) j] = j := by simp [tot, Rg.grow_len]
  rw [h1]
  have : k * reps ≤ 64 * 5 := Nat.mul_le_mul hk hr
  omega
theorem OwnP.grown0 {w w' : World} {base : Nat} {v : Value} {Q : List (List Int)} (h : OwnP w base v Q) (hg : w.grownBy w' none) : OwnP w' base v Q := by
  obtain ⟨vs, h1, h2, h3⟩ := h
  exact ⟨vs, h1.kept hg (by cases v.ownBlock <;> simp), fun i hi hk => let ⟨x, e1, e2, e3⟩ := h2 i hi hk; ⟨x, e1, e2.kept hg (by cases x.ownBlock <;> simp), e3⟩, h3⟩
theorem madeP (n : Nat) : (madeCells (Value.slice none 0 0).cells (n * 1)).toList = List.replicate n (.slice none 0 0) := by
  rw [Nat.mul_one]
  apply List.ext_getElem
  · simp [madeCells, Value.cells]
  · intro i h1 h2
    simp [madeCells, Value.cells, Nat.mod_one]
theorem OwnP.made {w : World} {base n : Nat} {v : Value} (h : w.ownsRow base 36 1 v n (madeCells (Value.slice none 0 0).cells (n * 1)).toList) : OwnP w base v (Rg.pad n []) := by
  rw [madeP] at h
  have e : Rg.pad n [] = List.replicate n [] := by simp [Rg.pad]
  refine ⟨List.replicate n (.slice none 0 0), by rw [e, List.length_replicate]; exact h, fun i hi _ => ?_, fun i j ui uj hi hj hij h1 h2 => ?_⟩
  · rw [e, List.length_replicate] at hi
    refine ⟨.slice none 0 0, by rw [List.getElem?_replicate, if_pos hi], ?_, .inl rfl⟩
    have e2 : (Rg.pad n [])[i]'(by rw [e, List.length_replicate]; exact hi) = [] := by simp [e]
    rw [e2]
    exact World.ownsRow_nil _ _ _ _
  · rw [e, List.length_replicate] at hi
    rw [List.getElem?_replicate, if_pos hi] at h1
    have := Option.some.inj h1
    subst this
    exact .inl rfl

set_option maxHeartbeats 4000000 in
set_option maxRecDepth 100000 in
theorem implBuildYes (c : Option Addr) (cc : Nat) (l : List Sm.St) (parts reps : Nat) (w : World) (hrl : RdS w c l) (hd : Dv.devs l = true) (hp1 : 1 ≤ parts) (hp2 : parts ≤ 64) (hr1 : 1 ≤ reps) (hr2 : reps ≤ 5) (hr3 : reps ≤ l.length) :
    Calls Try.prog 11 #[.slice c l.length cc, .int .i64 (parts : Int), .int .i64 (reps : Int)] w fun e w' => ∃ (a : Option Addr) (ca : Nat), e = .returned (.tuple #[.agg #[.int .i64 (reps : Int), .slice a parts ca], .bool true]) ∧
      OwnP w' w.heap.size (.slice a parts ca) (Rg.parts l reps parts) ∧ Below w.heap.size w w' := by
  obtain ⟨⟨hl1, hl12⟩, -⟩ := Dv.devs_dev hd
  have cD := fun w h => implDevs c cc l w (by omega) h
  rw [hd] at cD
  obtain ⟨i0, hi0, hz0, hz1, hz2⟩ := info_parts infoPt
  obtain ⟨j0, hj0, hy0, hy1, hy2⟩ := info_parts infoZ
  have c1 := sizeOkI (parts : Int) (reps : Int) true (by simp; omega)
  have hrc : ¬ (l.length : Int) < (reps : Int) := by omega
  have hrd : decide (l.length < reps) = false := decide_eq_false (by omega)
  have hrn : ¬ l.length < reps := by omega
  clear hd
  have s0 := slot2New w (.int .i64 0) (.slice none 0 0) 29
  have hB0 := bel1 w (.cells #[.int .i64 0, .slice none 0 0] 29)
  go_enter Try.func11, Try.ntmps11
  go_wp2_with fail
  refine (cD _ (hrl.below hB0)).mono ?_
  rintro e w1 ⟨rfl, hb1⟩
  have s1 := s0.below hb1
  have hB1 := behind hB0 hb1
  have hl0 := hrl.below hB1
  clear cD s0 hB0 hb1
  go_wp2_with fail
  refine (c1 _).mono ?_
  rintro e wa ⟨rfl, hwa⟩
  subst wa
  obtain ⟨w2, hrun, hown, hgrow⟩ := run_make_full (P := Try.prog) w1 w1.heap.size 27 36 i0 _ 1 Try.underlying27 hi0 hz0 hz1 .i64 .i64 parts (by rw [hz2]; omega) (by unfold maxLen; omega) (Nat.le_refl _)
  have hbel : Below w1.heap.size w1 w2 := (Below.refl _ _).grown hgrow (Nat.le_refl _) (fun k h => by cases h)
  have hO2 := OwnP.made hown
  have hlt2 := (World.ownsRow.lt hown w1.heap.size rfl).2
  have hlen0 : w.heap.size < w1.heap.size := s1.lt
  go_wp2
  clear hrun hrd hrn hrc hown hgrow c1
  have r0 := slot2New w2 (.int .i64 (reps : Int)) (.slice (some ⟨w1.heap.size, 0, none⟩) parts parts) 29
  have hRb := bel1 w2 (.cells #[.int .i64 (reps : Int), .slice (some ⟨w1.heap.size, 0, none⟩) parts parts] 29)
  have hO3 := hO2.below hRb
  have hb3 := behind hbel hRb
  generalize w2.alloc (.cells #[.int .i64 (reps : Int), .slice (some ⟨w1.heap.size, 0, none⟩) parts parts] 29) = w3 at r0 hO3 hb3 ⊢
  obtain ⟨G, hG⟩ : ∃ G, w1.heap.size = G := ⟨_, rfl⟩
  have HGe : Hid (w1.heap.size = G) := hG
  rw [hG] at hO3 hlt2 r0 ⊢
  clear hRb hO2 hbel hG
  generalize w2.heap.size = B at r0 hlt2 ⊢
  go_loopw [34] (fun i wr => ∃ k : Nat, k ≤ parts ∧ i = .int .i64 k ∧ Slot2 wr B (.int .i64 (reps : Int)) (.slice (some ⟨G, 0, none⟩) parts parts) ∧ OwnP wr G (.slice (some ⟨G, 0, none⟩) parts parts) (Rg.pad parts (Rg.parts l reps k)) ∧ Below w1.heap.size w1 wr) (fun i _ => parts - (intOf i).toNat)
  case atStart => exact ⟨0, Nat.zero_le _, rfl, r0, hO3, hb3⟩
  case round =>
    obtain ⟨k, hk, rfl, sk, hO, hb⟩ := hrel
    clear r0 hO3 hb3
    obtain ⟨⟨g0, g1⟩, f0, f1⟩ := id sk
    by_cases hlt : k < parts
    · have hPk := Rg.parts_len l reps k
      obtain ⟨P, hP⟩ : ∃ P, Rg.parts l reps k = P := ⟨_, rfl⟩
      have HP : Hid (Rg.parts l reps k = P) := hP
      rw [hP] at hO hPk
      clear hP
      rw [Rg.pad_new (by omega)] at hO
      have hQl : (Rg.pad parts (P ++ [[]])).length = parts := Rg.pad_len (by simp; omega)
      obtain ⟨au, cu, hc, hu, hf, -, hgs, hue⟩ := hO.at_ (k := P.length) (by omega)
      rw [Rg.pad_at (n := parts) (ps := P) (p := []) (by omega)] at hc hu hue
      rw [hPk] at hc hf
      have hwB := sk.lt
      obtain ⟨w4, hrun, hown4, hgrow4⟩ := run_makeSlice_owned (P := Try.prog) wr G 32 3 j0 _ 1 Try.underlying32 hj0 hy0 hy1 .i64 .i64 reps (by omega) (by rw [hy2]; omega) (by unfold maxLen; omega) (by omega)
      obtain ⟨c4, f4⟩ := cellGrown hc hf hgrow4 (by simp)
      have hO4 := OwnP.turned (w := wr) (w' := w4) (p' := []) (k := k) hO (by omega) hc ⟨hgrow4.os, hgrow4.tape, hgrow4.output, hgrow4.size, fun i hi _ => hgrow4.block i hi (by simp)⟩ hown4 (.inr rfl)
      rw [← hPk, Rg.pad_set, hPk] at hO4
      have s4 := (Slot2.grown sk hgrow4 (by simp)).far (b' := G) (o := k) (x := .slice (some ⟨wr.heap.size, 0, none⟩) 0 reps) (by omega)
      have hB4 : Below w1.heap.size w1 (w4.setCell ⟨G, k, none⟩ (.slice (some ⟨wr.heap.size, 0, none⟩) 0 reps)) := (hb.grown hgrow4 hb.size (fun i e => by cases e)).setCell (by show w1.heap.size ≤ G; exact Nat.le_of_eq HGe.out) _
      have hc5 : (w4.setCell ⟨G, k, none⟩ (.slice (some ⟨wr.heap.size, 0, none⟩) 0 reps)).cell? ⟨G, k, none⟩ = some (.slice (some ⟨wr.heap.size, 0, none⟩) 0 reps) := World.cell?_setCell_same' _ _ _ (by rw [c4]; rfl)
      have hkn : (k : Int) < (parts : Int) := by omega
      have hk0 : (0 : Int) ≤ (k : Int) := by omega
      clear hu hue hc hf hO
      go_wp2
      generalize w4.setCell ⟨G, k, none⟩ (.slice (some ⟨wr.heap.size, 0, none⟩) 0 reps) = w5 at hO4 s4 hB4 hc5 ⊢
      clear hrun hown4 hgrow4 c4 f4 g0 g1 f0 f1 sk hb
      generalize wr.heap.size = bu at hwB hc5
      go_loopw [47] (fun i wq => ∃ (j bu cu : Nat), j ≤ reps ∧ i = .int .i64 j ∧ Slot2 wq B (.int .i64 (reps : Int)) (.slice (some ⟨G, 0, none⟩) parts parts) ∧ OwnP wq G (.slice (some ⟨G, 0, none⟩) parts parts) (Rg.pad parts (P ++ [Rg.grow l P j])) ∧ wq.cell? ⟨G, k, none⟩ = some (.slice (some ⟨bu, 0, none⟩) j cu) ∧ B < bu ∧ Below w1.heap.size w1 wq) (fun i _ => reps - (intOf i).toNat)
      case atStart => exact ⟨0, bu, reps, Nat.zero_le _, rfl, s4, hO4, hc5, hwB, hB4⟩
      case round =>
        obtain ⟨j, bv, cv, hj, rfl, sj, hOj, hcj, hBv, hbj⟩ := hrel
        clear hO4 s4 hc5 hB4 hwB
        obtain ⟨⟨d0, d1⟩, e0, e1⟩ := id sj
        by_cases hjr : j < reps
        · have hR := OwnP.rdS hOj
          have hPl : (Rg.pad parts (P ++ [Rg.grow l P j])).length = parts := Rg.pad_len (by simp; omega)
          have hgl := Rg.grow_len l P j
          have htt : tot (Rg.pad parts (P ++ [Rg.grow l P j])) ≤ 1048576 := by rw [tot_pad, ← HP.out]; exact tot_grow l reps k j (by omega) hr2 (by omega)
          obtain ⟨a9, c9, hc9, hu9, hf9, -, hgs9, hue9⟩ := hOj.at_ (k := P.length) (by omega)
          have hat9 := Rg.pad_at (n := parts) (ps := P) (p := Rg.grow l P j) (by omega)
          rw [hat9, hgl] at hc9 hu9 hue9
          rw [hPk] at hc9 hf9
          rw [hcj] at hc9
          simp only [Option.some.injEq, Value.slice.injEq] at hc9
          obtain ⟨rfl, -, rfl⟩ := hc9
          have hneg : some G ≠ (Value.slice (some ⟨bv, 0, none⟩) j cv).ownBlock := fun e => by
            rcases hue9 with h9 | h9
            · cases h9
            · exact h9 e.symm
          have hneB : some B ≠ (Value.slice (some ⟨bv, 0, none⟩) j cv).ownBlock := fun e => by
            have e' : some B = some bv := e
            simp at e'
            omega
          have hzu : RdZ wr (some ⟨bv, 0, none⟩) (Rg.grow l P j) := Zv_rd (by rw [hgl]; exact hu9)
          have cB := implBest (reps : Int) (some ⟨G, 0, none⟩) (some ⟨bv, 0, none⟩) c parts cv cc (Rg.pad parts (P ++ [Rg.grow l P j])) (Rg.grow l P j) l wr.drew (by omega) htt (by omega) (by omega) hR hzu (hl0.below hbj.drew)
          rw [Rg.best_pad] at cB
          have HG : Hid (Rg.grow l P (j + 1) = Rg.grow l P j ++ [Rg.best (P ++ [Rg.grow l P j]) (Rg.grow l P j) l]) := rfl
          generalize Rg.best (P ++ [Rg.grow l P j]) (Rg.grow l P j) l = x at cB HG
          rw [hPl, hgl] at cB
          clear hR hzu htt
          have FIN : Hid (∀ (w6 : World), Below wr.drew.heap.size wr.drew w6 → ∀ g7 cap7 w7, w7.ownsRow G 3 1 (.slice (some ⟨g7, 0, none⟩) (j + 1) cap7) (j + 1) (Zv (Rg.grow l P j) ++ [.int .i64 x]) → (w6.alloc (.cells #[.int .i64 x] 3)).grownBy w7 (Value.slice (some ⟨bv, 0, none⟩) j cv).ownBlock →
              ((Value.slice (some ⟨bv, 0, none⟩) j cv).ownBlock = some g7 ∨ g7 = (w6.alloc (.cells #[.int .i64 x] 3)).heap.size) →
              Slot2 (w7.setCell ⟨G, k, none⟩ (.slice (some ⟨g7, 0, none⟩) (j + 1) cap7)) B (.int .i64 (reps : Int)) (.slice (some ⟨G, 0, none⟩) parts parts) ∧
              OwnP (w7.setCell ⟨G, k, none⟩ (.slice (some ⟨g7, 0, none⟩) (j + 1) cap7)) G (.slice (some ⟨G, 0, none⟩) parts parts) (Rg.pad parts (P ++ [Rg.grow l P (j + 1)])) ∧
              (w7.setCell ⟨G, k, none⟩ (.slice (some ⟨g7, 0, none⟩) (j + 1) cap7)).cell? ⟨G, k, none⟩ = some (.slice (some ⟨g7, 0, none⟩) (j + 1) cap7) ∧ B < g7 ∧
              Below w1.heap.size w1 (w7.setCell ⟨G, k, none⟩ (.slice (some ⟨g7, 0, none⟩) (j + 1) cap7))) := by
            intro w6 hb6 g7 cap7 w7 hown7 hg7 hat7
            have bA := bel1 w6 (.cells #[.int .i64 x] 3)
            have s7 := (Slot2.below (w := wr.drew) sj hb6).below bA
            have O7 := (OwnP.below (w := wr.drew) hOj hb6).below bA
            have c7 := cellOn (cellOn (w := wr.drew) hcj hb6) bA
            have hsz : B < (w6.alloc (.cells #[.int .i64 x] 3)).heap.size := s7.lt
            have hgl' := Rg.grow_len l P (j + 1)
            have hO7 := OwnP.turned (w' := w7) (p' := Rg.grow l P (j + 1)) O7 (k := k) (by omega) c7 hg7 (by rw [hgl', HG.out, Zv_snoc]; exact hown7) (by rcases hat7 with h9 | h9; exact .inl h9.symm; exact .inr (congrArg some h9))
            rw [← hPk, Rg.pad_set, hPk] at hO7
            have c8 := (cellGrown c7 (by obtain ⟨_, _, _, _, q, _⟩ := O7.at_ (k := k) (by omega); exact q) hg7 hneg).1
            have hbA : Below w1.heap.size w1 (w6.alloc (.cells #[.int .i64 x] 3)) := behind (behind hbj.drew hb6) bA
            have hB7 : Below w1.heap.size w1 w7 := hbA.grown hg7 hbA.size (fun i e => by
              have e' : some bv = some i := e
              simp at e'
              have := HGe.out
              omega)
            refine ⟨(Slot2.grown s7 hg7 hneB).far (by omega), hO7, World.cell?_setCell_same' _ _ _ (by rw [c8]; rfl), ?_, hB7.setCell (by show w1.heap.size ≤ G; exact Nat.le_of_eq HGe.out) _⟩
            rcases hat7 with h9 | h9
            · have h9' : some bv = some g7 := h9
              simp at h9'
              omega
            · omega
          clear hue9 e0 e1
          go_wp2_with fail
          go_region_law (first | (refine step_append_lies _ (by rfl) (.tmp 53) (.tmp 60) 32 (by rfl) G 3 j0 _ 1 8 Try.underlying32 hj0 hy0 hy1 hy2 rfl (by decide) _ _ _ (by rfl) (by exact uA) ⟨_, 0, none⟩ 1 1 [.int .i64 x] (by rfl) rfl oneZ_at oneZ_one (by omega) (by unfold maxLen; omega) (by omega) (by simp; omega) _ rfl ?_; intro g7 cap7 w7 hown7 hgrow7 hat7 hlt7; obtain ⟨a2, b2⟩ := cellGrown kA fA hgrow7 hneg) | (go_simp; go_at_call 20; refine cB.mono ?_; rintro e w6 ⟨rfl, hb6⟩; have hs6 : B < w6.heap.size := (Slot2.below (w := wr.drew) sj hb6).lt; have ck6 := cellOn (w := wr.drew) hcj hb6; have kA := cellOn ck6 (bel1 w6 (.cells #[.int .i64 x] 3)); have uA := ownOn (ownOn (w := wr.drew) hu9 hb6) (bel1 w6 (.cells #[.int .i64 x] 3)); have fA : (w6.alloc (.cells #[.int .i64 x] 3)).frozen? ⟨G, k, none⟩ = false := by rw [(bel1 w6 (.cells #[.int .i64 x] 3)).frozen (p := ⟨G, k, none⟩) (World.block_lt_of_cell? w6 _ ck6), hb6.frozen (p := ⟨G, k, none⟩) (World.block_lt_of_cell? wr _ hcj)]; exact hf9) | fail)
          all_goals
            obtain ⟨x1, x2, x3, x4, x5⟩ := FIN.out w6 hb6 g7 cap7 w7 hown7 hgrow7 hat7
            clear FIN hown7 hgrow7 hat7 hlt7 a2 b2 kA fA uA ck6
            go_wp2
            go_roundw
            case rel => exact ⟨j + 1, g7, cap7, by omega, by go_num, x1, x2, x3, x4, x5⟩
            case measure => simp [intOf]; omega
        · have hje : j = reps := by omega
          have hO9 : OwnP wr G (.slice (some ⟨G, 0, none⟩) parts parts) (Rg.pad parts (Rg.parts l reps (k + 1))) := by
            show OwnP wr _ _ (Rg.pad parts (Rg.parts l reps k ++ [Rg.grow l (Rg.parts l reps k) reps]))
            rw [HP.out, ← hje]
            exact hOj
          clear hje
          go_wp2
          go_roundw
          case rel => exact ⟨k + 1, by omega, by go_num, sj, hO9, hbj⟩
          case measure => simp [intOf]; omega
    · have hke : k = parts := by omega
      subst hke
      rw [Rg.pad_full (Rg.parts_len l reps k)] at hO
      obtain ⟨⟨t0, t1⟩, t2, t3⟩ := s1.below hb
      go_wp2
      have e0 : ((wr.setCell ⟨w.heap.size, 0, none⟩ (.int .i64 (reps : Int))).setCell ⟨w.heap.size, 1, none⟩ (.slice (some ⟨G, 0, none⟩) k k)).cell? ⟨w.heap.size, 0, none⟩ = some (.int .i64 (reps : Int)) := by
        rw [World.cell?_setCell_other _ _ _ _ (by simp)]
        exact World.cell?_setCell_same' _ _ _ (by rw [t0]; rfl)
      have e1 : ((wr.setCell ⟨w.heap.size, 0, none⟩ (.int .i64 (reps : Int))).setCell ⟨w.heap.size, 1, none⟩ (.slice (some ⟨G, 0, none⟩) k k)).cell? ⟨w.heap.size, 1, none⟩ = some (.slice (some ⟨G, 0, none⟩) k k) :=
        World.cell?_setCell_same' _ _ _ (by rw [World.cell?_setCell_other _ _ _ _ (by simp), t1]; rfl)
      have hGe := HGe.out
      refine bodyPost_ret (v := .tuple #[.agg #[.int .i64 (reps : Int), .slice (some ⟨G, 0, none⟩) k k], .bool true]) (by simp [results, Try.results11, go_sem, e0, e1]) rfl ⟨_, _, rfl, ?_, ?_⟩
      · exact ((hO.far (by omega)).far (by omega)).mono (by omega)
      · exact ((behind hB1 hb).setCell (Nat.le_refl _) _).setCell (Nat.le_refl _) _
end Go.Proofs.Ytcejeiakgmamdac.Wk
