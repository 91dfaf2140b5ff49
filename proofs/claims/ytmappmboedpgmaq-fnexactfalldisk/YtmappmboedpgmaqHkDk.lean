/- What the laws' heldNamedS, markDisk and heldDisk come to. -/
import Derived.Test.YtmappmboedpgmaqMkDk
namespace Go.Proofs.Ytmappmboedpgmaq.Wk
set_option linter.unusedVariables false
open Go.ChangeShapes Go.WideShapes Go.ChangeAt Go.RowKit

set_option maxHeartbeats 4000000 in
set_option maxRecDepth 100000 in
theorem heldNds (base m : Nat) (v : Value) (rs : List Rw) (w : World) (hm0 : 0 < m) (hm : m + totR rs ≤ 1073741824) (hl : rs.length ≤ 2097152) (ho : w.ownsRow base 57 2 v rs.length (mkC rs m)) (hby : MkB w base rs m rs.length) :
    Calls Try.prog 37 #[v, .int .i64 (m : Int)] w fun e w' => e = .returned (.int .i64 ((m + totR rs : Nat) : Int)) ∧ Below w.heap.size w w' := by
  obtain ⟨av, cv, rfl⟩ := Nd_shape ho
  go_enter Try.func37, Try.ntmps37
  go_wp2
  go_loopw [1, 5] (fun q i wr => ∃ k : Nat, k ≤ rs.length ∧ i = .int .i64 k ∧ q = .int .i64 ((m + totR (rs.take k) : Nat) : Int) ∧ Below w.heap.size w wr) (fun _ i _ => rs.length - (intOf i).toNat)
  case atStart => exact ⟨0, Nat.zero_le _, rfl, by simp [totR], Below.refl _ _⟩
  case round =>
    obtain ⟨k, hk, rfl, rfl, hb⟩ := hrel
    by_cases hlt : k < rs.length
    · obtain ⟨g, rfl⟩ : ∃ g, av = some ⟨g, 0, none⟩ := by
        rcases ho.2 with ⟨e, h0⟩ | ⟨g, cap, cur, e, -⟩
        · omega
        · simp only [Value.slice.injEq] at e
          exact ⟨g, e.1⟩
      have HT : Hid (totR (rs.take (k + 1)) = totR (rs.take k) + (1 + rs[k].2.2.length)) := totR_take hlt
      have hle := totR_le rs (k + 1)
      have hle2 : totR (rs.take k) + (1 + rs[k].2.2.length) ≤ totR rs := by rw [← HT.out]; exact hle
      have hrow := ownBelow ho hb
      have hc := mkC_get rs m k hlt
      have c0 := hrow.cellAt (k * 2) (by omega)
      have c1 := hrow.cellAt (k * 2 + 1) (by omega)
      rw [hc.1] at c0
      rw [hc.2] at c1
      have hok := ownBelow (hby k hlt hlt) hb
      obtain ⟨ya, yc, hsh⟩ := By_shape hok
      rw [hsh] at c1 hok
      have cT := markText (m + totR (rs.take k)) wr.drew (by omega) (by omega)
      have hw1 : IntKind.i64.wrap (k : Int) = (k : Int) := by simp only [IntKind.wrap, IntKind.bits, IntKind.signed]; simp; omega
      have hk0 : (0 : Int) ≤ (k : Int) := by omega
      have hk1 : (k : Int) < (rs.length : Int) := by omega
      generalize totR (rs.take k) = T at *
      generalize rs[k].2.2.length = n at *
      clear hle hc hrow hsh
      go_upto_region 4 with fail
      refine wp_region_held_drew (S := fun wy => wy.cell? ⟨g, k * 2, none⟩ = some (.string (mtT (m + T)))) (by kernel_rfl) c0 (fun hHeld => ?_)
      refine wpAnyH_take (i := 0) (oi := ?_) (v := ?_) ?_ ?_ ?_ ?_ ?_ ?_ (by assumption) ?_
      rotate_left 2
      · simp only [List.getElem?_toArray, List.getElem?_cons_zero]
        rfl
      · kernel_rfl
      · kernel_rfl
      · kernel_rfl
      · exact fun _ _ _ h => h
      · refine Or.inl ⟨by kernel_rfl, ?_⟩
        intro wS hSw
        try dsimp only at hSw
        go_simp
        try with_reducible rfl
      simp only [Act.put, List.setIfInBounds_toArray, List.set_cons_zero, List.set_cons_succ]
      refine wpAnyH_take (i := 1) (oi := ?_) (v := ?_) ?_ ?_ ?_ ?_ ?_ ?_ (by assumption) ?_
      rotate_left 2
      · simp only [List.getElem?_toArray, List.getElem?_cons_succ, List.getElem?_cons_zero]
        rfl
      · kernel_rfl
      · kernel_rfl
      · kernel_rfl
      · exact fun _ _ _ h => h
      · refine Or.inl ⟨by kernel_rfl, ?_⟩
        intro wS hSw
        try dsimp only at hSw
        go_simp
        try with_reducible rfl
      simp only [Act.put, List.setIfInBounds_toArray, List.set_cons_zero, List.set_cons_succ]
      refine wpAnyH_take (i := 2) (oi := ?_) (v := ?_) ?_ ?_ ?_ ?_ ?_ ?_ (by assumption) ?_
      rotate_left 2
      · simp only [List.getElem?_toArray, List.getElem?_cons_succ, List.getElem?_cons_zero]
        rfl
      · kernel_rfl
      · kernel_rfl
      · kernel_rfl
      · exact fun _ _ _ h => h
      · refine Or.inl ⟨by kernel_rfl, ?_⟩
        intro wS hSw
        try dsimp only at hSw
        go_simp
        try with_reducible rfl
      simp only [Act.put, List.setIfInBounds_toArray, List.set_cons_zero, List.set_cons_succ]
      refine wpAnyH_take (i := 3) (oi := ?_) (v := ?_) ?_ ?_ ?_ ?_ ?_ ?_ (by assumption) ?_
      rotate_left 2
      · simp only [List.getElem?_toArray, List.getElem?_cons_succ, List.getElem?_cons_zero]
        rfl
      · kernel_rfl
      · kernel_rfl
      · kernel_rfl
      · exact fun _ _ _ h => h
      · refine Or.inl ⟨by kernel_rfl, ?_⟩
        intro wS hSw
        try dsimp only at hSw
        go_simp
        try with_reducible rfl
      simp only [Act.put, List.setIfInBounds_toArray, List.set_cons_zero, List.set_cons_succ]
      refine wpAnyH_take (i := 4) (oi := ?_) (v := ?_) ?_ ?_ ?_ ?_ ?_ ?_ (by assumption) ?_
      rotate_left 2
      · simp only [List.getElem?_toArray, List.getElem?_cons_succ, List.getElem?_cons_zero]
        rfl
      · kernel_rfl
      · kernel_rfl
      · kernel_rfl
      · exact fun _ _ _ h => h
      · refine Or.inl ⟨by kernel_rfl, ?_⟩
        intro wS hSw
        try dsimp only at hSw
        go_simp
        try with_reducible rfl
      simp only [Act.put, List.setIfInBounds_toArray, List.set_cons_zero, List.set_cons_succ]
      refine wpAnyH_take (i := 5) (oi := ?_) (v := ?_) ?_ ?_ ?_ ?_ ?_ ?_ (by assumption) ?_
      rotate_left 2
      · simp only [List.getElem?_toArray, List.getElem?_cons_succ, List.getElem?_cons_zero]
        rfl
      · kernel_rfl
      · kernel_rfl
      · kernel_rfl
      · exact fun _ _ _ h => h
      · refine Or.inl ⟨by kernel_rfl, ?_⟩
        intro wS hSw
        try dsimp only at hSw
        go_simp
        try with_reducible rfl
      simp only [Act.put, List.setIfInBounds_toArray, List.set_cons_zero, List.set_cons_succ]
      refine wpAnyH_ready (rs := [6]) (by kernel_rfl) (by simp) ?_
      refine AllReadyH.cons rfl (fun K hK => ?_) ?_
      rotate_left
      · exact AllReadyH.nil
      go_simp
      refine cT.mono ?_
      rintro e w2 ⟨rfl, hb2⟩
      go_wp2_with fail
      refine hK.out _ _ ?_ (fun hHeld => ?_)
      · exact cellNd hHeld hb2
      clear hK K
      try simp only [Act.put, List.setIfInBounds_toArray, List.set_cons_zero, List.set_cons_succ]
      refine wpAnyH_take (i := 7) (oi := ?_) (v := ?_) ?_ ?_ ?_ ?_ ?_ ?_ (by assumption) ?_
      rotate_left 2
      · simp only [List.getElem?_toArray, List.getElem?_cons_succ, List.getElem?_cons_zero]
        rfl
      · kernel_rfl
      · kernel_rfl
      · kernel_rfl
      · exact fun _ _ _ h => h
      · refine Or.inl ⟨by kernel_rfl, ?_⟩
        intro wS hSw
        try dsimp only at hSw
        go_simp
        try with_reducible rfl
      simp only [Act.put, List.setIfInBounds_toArray, List.set_cons_zero, List.set_cons_succ]
      refine wpAnyH_done (by kernel_rfl) ?_ _
      have c1' := cellNd (show wr.drew.cell? _ = _ from c1) hb2
      have hok' := ownBelow (w := wr.drew) hok hb2
      have B2 : Below w.heap.size w w2 := behind hb.drew hb2
      have cB := heldBs base n (m + T + 1) (.slice ya n yc) w2 (by omega) (by omega) hok'
      have ecast : ((m + T + 1 : Nat) : Int) = ((m + T : Nat) : Int) + 1 := by omega
      rw [ecast] at cB
      have HE : Hid (((m + T : Nat) : Int) + 1 + (n : Int) = ((m + totR (rs.take (k + 1)) : Nat) : Int)) := by
        show _ = _
        rw [HT.out]
        omega
      rw [HE.out] at cB
      have hp0 : ¬ (((m + totR (rs.take (k + 1)) : Nat) : Int) < 0) := by omega
      clear c0 c1 cT hok hok' ecast
      go_wp2_with fail
      go_at_call 61
      refine cB.mono ?_
      rintro e w3 ⟨rfl, rfl⟩
      go_wp2
      go_roundw
      case rel => exact ⟨k + 1, by omega, by go_num, rfl, B2⟩
      case measure => simp [intOf]; omega
    · have hkl : k = rs.length := by omega
      subst hkl
      have HE : Hid (totR (rs.take rs.length) = totR rs) := by show _ = _; rw [List.take_length]
      go_wp2
      go_ret
      exact ⟨by rw [← HE.out]; rfl, hb⟩

/-- the marks of a disk -/
def MkD (w : World) (base : Nat) (v1 v2 : Value) (r1 r2 : List Rw) (m : Nat) : Prop := (w.ownsRow base 57 2 v1 r1.length (mkC r1 m) ∧ MkB w base r1 m r1.length) ∧ w.ownsRow base 57 2 v2 r2.length (mkC r2 (m + totR r1)) ∧ MkB w base r2 (m + totR r1) r2.length
/-- the blocks of a disk -/
def BlkD (v1 v2 : Value) (r1 r2 : List Rw) (b : Nat) : Prop := BlkS v1 r1 b ∨ BlkS v2 r2 b
theorem MkD.below {w w' : World} {base m : Nat} {v1 v2 : Value} {r1 r2 : List Rw} (h : MkD w base v1 v2 r1 r2 m) (hb : Below w.heap.size w w') : MkD w' base v1 v2 r1 r2 m :=
  ⟨⟨ownBelow h.1.1 hb, fun i hi hk => ownBelow (h.1.2 i hi hk) hb⟩, ownBelow h.2.1 hb, fun i hi hk => ownBelow (h.2.2 i hi hk) hb⟩
theorem MkD.kept {w w' : World} {base m : Nat} {v1 v2 : Value} {r1 r2 : List Rw} {S : Nat → Prop} (h : MkD w base v1 v2 r1 r2 m) (hk : KeptS S w w') (hn : ∀ b, BlkD v1 v2 r1 r2 b → ¬ S b) : MkD w' base v1 v2 r1 r2 m :=
  ⟨⟨hk.own h.1.1 (fun j e => hn j (.inl (.inl e))), fun i hi hk2 => hk.own (h.1.2 i hi hk2) (fun j e => hn j (.inl (.inr ⟨r1[i], List.getElem_mem hi, e⟩)))⟩,
   hk.own h.2.1 (fun j e => hn j (.inr (.inl e))), fun i hi hk2 => hk.own (h.2.2 i hi hk2) (fun j e => hn j (.inr (.inr ⟨r2[i], List.getElem_mem hi, e⟩)))⟩
theorem OwnD.kept {w w' : World} {base : Nat} {v1 v2 : Value} {r1 r2 : List Rw} {S : Nat → Prop} (h : OwnD w base v1 v2 r1 r2) (hk : KeptS S w w') (hn : ∀ b, BlkD v1 v2 r1 r2 b → ¬ S b) : OwnD w' base v1 v2 r1 r2 :=
  ⟨hk.own h.1 (fun j e => hn j (.inl (.inl e))), hk.own h.2.1 (fun j e => hn j (.inr (.inl e))), fun r hr => hk.own (h.2.2.1 r hr) (fun j e => hn j (.inl (.inr ⟨r, hr, e⟩))), fun r hr => hk.own (h.2.2.2.1 r hr) (fun j e => hn j (.inr (.inr ⟨r, hr, e⟩))), h.2.2.2.2⟩
theorem OwnD.blk {w : World} {base : Nat} {v1 v2 : Value} {r1 r2 : List Rw} (h : OwnD w base v1 v2 r1 r2) : ∀ b, BlkD v1 v2 r1 r2 b → base ≤ b ∧ b < w.heap.size := by
  rintro b ((e | ⟨r, hr, e⟩) | (e | ⟨r, hr, e⟩))
  · exact World.ownsRow.lt h.1 b e
  · exact World.ownsRow.lt (h.2.2.1 r hr) b e
  · exact World.ownsRow.lt h.2.1 b e
  · exact World.ownsRow.lt (h.2.2.2.1 r hr) b e
theorem OwnD.apart12 {w : World} {base : Nat} {v1 v2 : Value} {r1 r2 : List Rw} (h : OwnD w base v1 v2 r1 r2) : ∀ b, BlkS v2 r2 b → ¬ BlkS v1 r1 b := by
  obtain ⟨-, -, -, -, p⟩ := h
  obtain ⟨p1, p⟩ := List.pairwise_cons.1 p
  obtain ⟨p2, p⟩ := List.pairwise_cons.1 p
  obtain ⟨-, -, p3⟩ := List.pairwise_append.1 p
  have ap : ∀ {u u' : Value} {b : Nat}, Apart u u' → u.ownBlock = some b → u'.ownBlock = some b → False := by
    rintro u u' b (e | e) h1 h2
    · rw [e] at h1; cases h1
    · exact e (h1.trans h2.symm)
  rintro b (e | ⟨r, hr, e⟩) (e' | ⟨r', hr', e'⟩)
  · exact ap (p1 v2 (by simp)) e' e
  · exact ap (p2 r'.2.1 (List.mem_append_left _ (List.mem_map.2 ⟨r', hr', rfl⟩))) e e'
  · exact ap (p1 r.2.1 (List.mem_cons_of_mem _ (List.mem_append_right _ (List.mem_map.2 ⟨r, hr, rfl⟩)))) e' e
  · exact ap (p3 r'.2.1 (List.mem_map.2 ⟨r', hr', rfl⟩) r.2.1 (List.mem_map.2 ⟨r, hr, rfl⟩)) e' e
theorem BysO.owB {w : World} {base : Nat} {rs : List Rw} (h : BysO w base rs) : OwB w base rs 0 := fun i hi _ => ⟨_, h rs[i] (List.getElem_mem hi)⟩
theorem OwnD.p1 {w : World} {base : Nat} {v1 v2 : Value} {r1 r2 : List Rw} (h : OwnD w base v1 v2 r1 r2) : (v1 :: vals r1).Pairwise Apart := by
  obtain ⟨-, -, -, -, p⟩ := h
  obtain ⟨p1, p⟩ := List.pairwise_cons.1 p
  obtain ⟨-, p⟩ := List.pairwise_cons.1 p
  obtain ⟨p3, -, -⟩ := List.pairwise_append.1 p
  exact List.pairwise_cons.2 ⟨fun u hu => p1 u (List.mem_cons_of_mem _ (List.mem_append_left _ hu)), p3⟩

set_option maxHeartbeats 4000000 in
set_option maxRecDepth 100000 in
theorem markDk (base m n1 n2 : Nat) (a1 a2 : Option Addr) (c1 c2 : Nat) (r1 r2 : List Rw) (w : World) (hm0 : 0 < m) (hm : m + totR r1 + totR r2 ≤ 1073741824) (hl1 : r1.length ≤ 2097152) (hl2 : r2.length ≤ 2097152) (h : OwnD w base (.slice a1 n1 c1) (.slice a2 n2 c2) r1 r2) :
    Calls Try.prog 12 #[.agg #[.slice a1 n1 c1, .slice a2 n2 c2], .int .i64 (m : Int)] w fun e w' => e = .returned (.int .i64 ((m + totR r1 + totR r2 : Nat) : Int)) ∧ MkD w' base (.slice a1 n1 c1) (.slice a2 n2 c2) r1 r2 m ∧ KeptS (BlkD (.slice a1 n1 c1) (.slice a2 n2 c2) r1 r2) w w' := by
  have b0 := bel1 w (.cells #[.slice a1 n1 c1, .slice a2 n2 c2] 28)
  have s0 := slot2dNew w (.slice a1 n1 c1) (.slice a2 n2 c2) 28
  have K0 : KeptS (BlkD (.slice a1 n1 c1) (.slice a2 n2 c2) r1 r2) w (w.alloc (.cells #[.slice a1 n1 c1, .slice a2 n2 c2] 28)) := (KeptS.refl _ _).below b0
  have hD := h.below b0
  have hblk := h.blk
  have hap := hD.apart12
  have cA := markNds base m (.slice a1 n1 c1) r1 _ hm0 (by omega) hl1 hD.1 hD.2.2.1.owB hD.p1
  go_enter Try.func12, Try.ntmps12
  go_upto_region 1 with fail
  generalize w.alloc (.cells #[.slice a1 n1 c1, .slice a2 n2 c2] 28) = wA at *
  obtain ⟨⟨x0, x1⟩, -⟩ := id s0
  go_wp2_with fail
  go_at_call 36
  refine cA.mono ?_
  rintro e w2 ⟨rfl, ho2, hm2, hk2⟩
  have s2 := hk2.slot s0 (fun x => by
    have := (hblk w.heap.size (.inl x)).2
    omega)
  have hr2 := hk2.own hD.2.1 (fun j e => hap j (.inl e))
  have hb2 : BysO w2 base r2 := fun r hr => hk2.own (hD.2.2.2.1 r hr) (fun j e => hap j (.inr ⟨r, hr, e⟩))
  have hE := hD.swap.p1
  have hap2 := hD.swap.apart12
  have cB := markNds base (m + totR r1) (.slice a2 n2 c2) r2 w2 (by omega) hm hl2 hr2 hb2.owB hE
  have K2 := K0.trans (hk2.mono (fun b x => Or.inl x))
  obtain ⟨⟨y0, y1⟩, -⟩ := id s2
  clear cA x0 x1 s0 K0
  go_wp2_with fail
  go_at_call 36
  refine cB.mono ?_
  rintro e w3 ⟨rfl, ho3, hm3, hk3⟩
  have hF : MkD w3 base (.slice a1 n1 c1) (.slice a2 n2 c2) r1 r2 m := ⟨⟨hk3.own ho2 (fun j e => hap2 j (.inl e)), fun i hi hk => hk3.own (hm2 i hi hk) (fun j e => hap2 j (.inr ⟨r1[i], List.getElem_mem hi, e⟩))⟩, ho3, hm3⟩
  have K3 := K2.trans (hk3.mono (fun b x => Or.inr x))
  clear cB ho2 hm2 ho3 hm3 hk2 hk3 hr2 hb2
  go_wp2
  go_ret
  exact ⟨rfl, hF, K3⟩

set_option maxHeartbeats 4000000 in
set_option maxRecDepth 100000 in
theorem heldDk (base m n1 n2 : Nat) (a1 a2 : Option Addr) (c1 c2 : Nat) (r1 r2 : List Rw) (w : World) (hm0 : 0 < m) (hm : m + totR r1 + totR r2 ≤ 1073741824) (hl1 : r1.length ≤ 2097152) (hl2 : r2.length ≤ 2097152) (h : MkD w base (.slice a1 n1 c1) (.slice a2 n2 c2) r1 r2 m) :
    Calls Try.prog 13 #[.agg #[.slice a1 n1 c1, .slice a2 n2 c2], .int .i64 (m : Int)] w fun e w' => e = .returned (.int .i64 ((m + totR r1 + totR r2 : Nat) : Int)) ∧ Below w.heap.size w w' := by
  have b0 := bel1 w (.cells #[.slice a1 n1 c1, .slice a2 n2 c2] 28)
  have s0 := slot2dNew w (.slice a1 n1 c1) (.slice a2 n2 c2) 28
  have hD := h.below b0
  have cA := heldNds base m (.slice a1 n1 c1) r1 _ hm0 (by omega) hl1 hD.1.1 hD.1.2
  have hp1 : ¬ (((m + totR r1 : Nat) : Int) < 0) := by omega
  have hp2 : ¬ (((m + totR r1 + totR r2 : Nat) : Int) < 0) := by omega
  go_enter Try.func13, Try.ntmps13
  go_upto_region 1 with fail
  generalize w.alloc (.cells #[.slice a1 n1 c1, .slice a2 n2 c2] 28) = wA at *
  obtain ⟨⟨x0, x1⟩, -⟩ := id s0
  go_wp2_with fail
  go_at_call 37
  refine cA.mono ?_
  rintro e w2 ⟨rfl, hb2⟩
  have B2 := behind b0 hb2
  have hD2 := hD.below hb2
  have cB := heldNds base (m + totR r1) (.slice a2 n2 c2) r2 w2 (by omega) hm hl2 hD2.2.1 hD2.2.2
  obtain ⟨⟨y0, y1⟩, -⟩ := s0.below hb2
  clear cA x0 x1
  go_wp2_with fail
  go_at_call 37
  refine cB.mono ?_
  rintro e w3 ⟨rfl, hb3⟩
  go_wp2
  go_ret
  exact ⟨rfl, behind B2 hb3⟩
end Go.Proofs.Ytmappmboedpgmaq.Wk
