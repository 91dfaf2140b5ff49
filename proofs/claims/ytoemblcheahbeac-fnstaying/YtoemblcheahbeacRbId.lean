/- What slices.IndexFunc comes to over numbers; firstGone and without of the program. -/
import Derived.Test.YtoemblcheahbeacRbIb
import Derived.Test.YtoemblcheahbeacRbSa
import Derived.Test.YtoemblcheahbeacAtI
import Derived.Test.YtoemblcheahbeacShelfD
import Derived.Sort.OwnSortedInts
namespace Go.Proofs.Ytoemblcheahbeac.Wk
set_option linter.unusedVariables false
open Go.ChangeShapes Go.WideShapes Go.ChangeAt Go.RowKit Go.Sort

set_option maxHeartbeats 1000000 in
set_option maxRecDepth 100000 in
theorem idxFuncZ (g : Nat) (lb : Array Value) (eg : ∀ args w, (callFunc g args).run Try.prog w = .ok (.enter g args) w) (f : Int → Bool) (a : Option Addr) (ca : Nat) (p : List Int) (w : World) (hp : p.length ≤ 1048576) (hr : RdZ w a p)
    (hf : ∀ (W : World) (x : Int), Below w.heap.size w W → Calls Try.prog g (#[.int .i64 x] ++ lb) W fun e w' => e = .returned (.bool (f x)) ∧ Below W.heap.size W w') :
    Calls Try.prog 78 #[.slice a p.length ca, .func (.func g) #[] lb] w fun e w' => e = .returned (.int .i64 (Rg.idxI (p.findIdx? f))) ∧ Below w.heap.size w w' := by
  obtain ⟨K, hK⟩ : ∃ K, Rg.idxI (p.findIdx? f) = K := ⟨_, rfl⟩
  have HK : Hid (Rg.idxI (p.findIdx? f) = K) := hK
  rw [hK]
  clear hK
  have HF : Hid (∀ (W : World) (x : Int), Below w.heap.size w W → Calls Try.prog g (#[.int .i64 x] ++ lb) W fun e w' => e = .returned (.bool (f x)) ∧ Below W.heap.size W w') := hf
  clear hf
  go_enter Try.func78, Try.ntmps78
  go_wp2
  go_loopw [8] (fun i wr => ∃ k : Nat, k ≤ p.length ∧ i = .int .i64 k ∧ Hid (((p.take k).all fun x => !f x) = true) ∧ Below w.heap.size w wr) (fun i _ => p.length - (intOf i).toNat)
  case atStart => exact ⟨0, Nat.zero_le _, rfl, rfl, Below.refl _ _⟩
  case round =>
    obtain ⟨k, hk, rfl, HA, hb⟩ := hrel
    by_cases hlt : k < p.length
    · have HY : Hid (f p[k] = true → K = k) := fun h => by rw [← HK.out, Rg.find_hit hlt HA.out h]; rfl
      have HN : Hid (f p[k] = false → ((p.take (k + 1)).all fun x => !f x) = true) := fun h => Rg.find_step hlt HA.out h
      obtain ⟨b1, o1, rfl, hx⟩ := (hr.below hb) k hlt
      generalize p[k] = x at HY HN hx
      have hcall := HF.out wr x hb
      cases hq : f x with
      | true =>
        rw [hq] at hcall
        have eK := HY.out hq
        subst eK
        clear HY HN HK HA hq
        go_wp2_with (go_at_fn g; refine hcall.mono ?_; rintro e w4 ⟨rfl, hb4⟩)
        go_ret
        exact ⟨rfl, behind hb hb4⟩
      | false =>
        rw [hq] at hcall
        have HT' := HN.out hq
        have HT : Hid (((p.take (k + 1)).all fun x => !f x) = true) := HT'
        clear HY HN hq HT'
        go_wp2_with (go_at_fn g; refine hcall.mono ?_; rintro e w4 ⟨rfl, hb4⟩)
        go_roundw
        case rel => exact ⟨k + 1, by omega, by go_num, HT, behind hb hb4⟩
        case measure => simp [intOf]; omega
    · have eK : K = -1 := by rw [← HK.out, Rg.find_end hlt HA.out]; rfl
      subst eK
      clear HK HA
      go_wp2
      go_ret
      exact ⟨rfl, hb⟩

set_option maxHeartbeats 1000000 in
set_option maxRecDepth 100000 in
theorem goneFn (B : Nat) (c : Option Addr) (cc : Nat) (l : List Sm.St) (x : Int) (w : World) (hl : l.length ≤ 1048576) (hB : w.cell? ⟨B, 0, none⟩ = some (.slice c l.length cc)) (hs : RdS w c l) :
    Calls Try.prog 79 #[.int .i64 x, .pointer (some ⟨B, 0, none⟩)] w fun e w' => e = .returned (.bool (Rg.lostB l x)) ∧ Below w.heap.size w w' := by
  have cA := implAt c cc l x w hl hs
  cases hd : Dv.at_ l x with
  | none =>
    rw [hd] at cA
    rw [lost_yes hd]
    dsimp only [dvAtV] at cA
    clear hd
    go_enter Try.func79, Try.ntmps79
    go_wp2_with fail
    refine cA.mono ?_
    rintro e w4 ⟨rfl, hb4⟩
    go_wp2
    go_ret
    exact ⟨rfl, behind hb4 (bel1 _ _)⟩
  | some d =>
    rw [hd] at cA
    rw [lost_no hd]
    obtain ⟨i, z, n⟩ := d
    dsimp only [dvAtV] at cA
    clear hd
    go_enter Try.func79, Try.ntmps79
    go_wp2_with fail
    refine cA.mono ?_
    rintro e w4 ⟨rfl, hb4⟩
    go_wp2
    go_ret
    exact ⟨rfl, behind hb4 (bel1 _ _)⟩
set_option maxHeartbeats 1000000 in
set_option maxRecDepth 100000 in
theorem implGone (a c : Option Addr) (ca cc : Nat) (p : List Int) (l : List Sm.St) (w : World) (hp : p.length ≤ 1048576) (hl : l.length ≤ 1048576) (hr : RdZ w a p) (hs : RdS w c l) :
    Calls Try.prog 71 #[.agg #[.slice a p.length ca], .slice c l.length cc] w fun e w' => e = .returned (.int .i64 (Rg.idxI (p.findIdx? (Rg.lostB l)))) ∧ Below w.heap.size w w' := by
  have s0 := (slot1New w (.slice a p.length ca) 36).below (bel1 _ (.cells #[.slice c l.length cc] 24))
  have s1 := slot1New (w.alloc (.cells #[.slice a p.length ca] 36)) (.slice c l.length cc) 24
  have hB0 := bel2 w (.cells #[.slice a p.length ca] 36) (.cells #[.slice c l.length cc] 24)
  have hr0 := hr.below hB0
  have hs0 := hs.below hB0
  rw [World.size_alloc] at s1
  go_enter Try.func71, Try.ntmps71
  go_wp2_with fail
  generalize (w.alloc (.cells #[.slice a p.length ca] 36)).alloc (.cells #[.slice c l.length cc] 24) = w0 at s0 s1 hB0 hr0 hs0 ⊢
  refine (idxFuncZ 79 #[.pointer (some ⟨w.heap.size + 1, 0, none⟩)] (enters_of Try.func79 (by kernel_rfl) rfl) (Rg.lostB l) a ca p _ hp hr0 (fun W x hb => goneFn _ c cc l x W hl (s1.below hb).1 (hs0.below hb))).mono ?_
  rintro e w4 ⟨rfl, hb4⟩
  go_wp2
  go_ret
  exact ⟨rfl, behind hB0 hb4⟩

theorem erase_eq (p : List Int) (k : Nat) : p.take k ++ p.drop (k + 1) = p.eraseIdx k := (List.eraseIdx_eq_take_drop_succ p k).symm
theorem putBy {w : World} {g q : Nat} (d : Array Int) : w.grownBy (putRow (Value.int .i64) (Sort.ahead w q) g 0 d) (some g) := by
  refine ⟨rfl, rfl, rfl, by simp, fun k hk hne => ?_⟩
  have : g ≠ k := fun e => hne (by rw [e])
  simp [putRow, mapBlock, Sort.ahead, Array.getElem?_modify, this]
theorem deleteZ (g c k base : Nat) (p : List Int) (w : World) (hk : k < p.length) (ho : w.ownsRow base 3 1 (.slice (some ⟨g, 0, none⟩) p.length c) p.length (Zv p)) :
    Calls Try.prog 80 #[.slice (some ⟨g, 0, none⟩) p.length c, .int .i64 (k : Int), .int .i64 ((k : Int) + 1)] w fun e w' => e = .returned (.slice (some ⟨g, 0, none⟩) (p.eraseIdx k).length c) ∧ RdZ w' (some ⟨g, 0, none⟩) (p.eraseIdx k) ∧ w.grownBy w' (some g) := by
  have hH : Holds (Value.int .i64) w g 0 p.toArray := by
    intro j hj
    have hjl : j < p.length := by simpa using hj
    have hc := ho.cellAt j (by omega)
    refine ⟨?_, by rw [Nat.zero_add]; exact ho.frozenAt j⟩
    rw [Nat.zero_add, hc]
    simp [Zv, hjl]
  have hcap := own_cap ho
  have hm : c ≤ 9223372036854775807 := by
    rcases ho.2 with ⟨e, _⟩ | ⟨g', cap', cur, e, _, _, _, h, _⟩
    · simp at e
    · simp only [Value.slice.injEq] at e
      unfold maxLen at h
      omega
  have h := Any.slices_Delete_int Try.deleteA g 0 c k (k + 1) p w hH hcap hm (by omega) (by omega)
  refine Calls.mono (show Calls Try.prog 80 #[.slice (some ⟨g, 0, none⟩) p.length c, .int .i64 (k : Int), .int .i64 ((k : Int) + 1)] w _ from h) ?_
  rintro e w' ⟨rfl, q, rfl⟩
  have e1 : k + 1 - k = 1 := by omega
  have hl : (p.eraseIdx k).length = p.length - 1 := List.length_eraseIdx_of_lt hk
  rw [e1, ← hl]
  refine ⟨rfl, ?_, putBy _⟩
  have h2 := holds_putRow (Value.int .i64) (Sort.ahead w q) g 0 p.toArray (p.take k ++ p.drop (k + 1) ++ List.replicate 1 0).toArray hH (by simp; omega)
  rw [erase_eq] at h2 ⊢
  intro i hi
  refine ⟨g, 0, rfl, ?_⟩
  have h3 := (h2 i (by simp; omega)).1
  rw [h3]
  simp [hi, List.getElem?_append_left]
set_option maxHeartbeats 1000000 in
set_option maxRecDepth 100000 in
theorem implWithout (b : Option Addr) (cb k : Nat) (p : List Int) (w : World) (hp : p.length ≤ 1048576) (hk : k < p.length) (hr : RdZ w b p) :
    Calls Try.prog 72 #[.agg #[.slice b p.length cb], .int .i64 (k : Int)] w fun e w' => ∃ (b' : Option Addr) (cb' : Nat), e = .returned (.agg #[.slice b' (p.eraseIdx k).length cb']) ∧ RdZ w' b' (p.eraseIdx k) ∧ Below w.heap.size w w' := by
  have s0 := (slot1New w (.slice b p.length cb) 36).below (bel1 _ (.cells #[.slice none 0 0] 36))
  have s1 := slot1New (w.alloc (.cells #[.slice b p.length cb] 36)) (.slice none 0 0) 36
  have hB0 := bel2 w (.cells #[.slice b p.length cb] 36) (.cells #[.slice none 0 0] 36)
  have hr0 := hr.below hB0
  rw [World.size_alloc] at s1
  have hs0 : ((w.alloc (.cells #[.slice b p.length cb] 36)).alloc (.cells #[.slice none 0 0] 36)).heap.size = w.heap.size + 2 := by simp
  have hnb : b = none → cb = 0 := by
    rintro rfl
    obtain ⟨_, _, e, _⟩ := hr k hk
    cases e
  go_enter Try.func72, Try.ntmps72
  go_wp2_with fail
  generalize (w.alloc (.cells #[.slice b p.length cb] 36)).alloc (.cells #[.slice none 0 0] 36) = w0 at s0 s1 hB0 hr0 hs0 ⊢
  refine (cloneZ b cb p _ hp hr0 hnb).mono ?_
  rintro e w5 ⟨a5, c5, rfl, ho5, hb5⟩
  obtain ⟨g, rfl⟩ : ∃ g, a5 = some ⟨g, 0, none⟩ := by
    rcases ho5.2 with ⟨_, h0⟩ | ⟨g, cap', cur, e, _⟩
    · omega
    · simp only [Value.slice.injEq] at e
      exact ⟨g, e.1⟩
  have hg : w0.heap.size ≤ g := (World.ownsRow.lt ho5 g rfl).1
  have s5 := s1.below hb5
  go_wp2_with fail
  refine (deleteZ g c5 k w0.heap.size p _ hk ho5).mono ?_
  rintro e w7 ⟨rfl, hr7, hg7⟩
  have hB7 : Below w.heap.size w w7 := (behind hB0 hb5).grown hg7 (behind hB0 hb5).size (fun j e => by cases e; omega)
  have s7 := Slot1.grw s5 hg7 (fun e => by simp only [Option.some.injEq] at e; omega)
  obtain ⟨t0, t1⟩ := id s7
  clear hr0 s0 s1 ho5 hb5 s5 hg7
  go_wp2
  have e0 : (w7.setCell ⟨w.heap.size + 1, 0, none⟩ (.slice (some ⟨g, 0, none⟩) (p.eraseIdx k).length c5)).cell? ⟨w.heap.size + 1, 0, none⟩ = some (.slice (some ⟨g, 0, none⟩) (p.eraseIdx k).length c5) :=
    World.cell?_setCell_same' _ _ _ (by rw [t0]; rfl)
  refine bodyPost_ret (v := .agg #[.slice (some ⟨g, 0, none⟩) (p.eraseIdx k).length c5]) (by simp [results, Try.results72, go_sem, e0]) rfl ⟨some ⟨g, 0, none⟩, c5, rfl, ?_, ?_⟩
  · exact hr7.far (fun x e => by cases e; show g ≠ w.heap.size + 1; omega)
  · exact hB7.setCell (by show w.heap.size ≤ w.heap.size + 1; omega) _
end Go.Proofs.Ytoemblcheahbeac.Wk
