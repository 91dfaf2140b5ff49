/- What DevsText of the program comes to, where the library's table of powers of ten reads as it was laid. -/
import Derived.Test.YtekjnfkmjmmcmabDoorItI
import Derived.Test.YtekjnfkmjmmcmabDoorTxS
import Derived.Test.YtekjnfkmjmmcmabDoorDvI
import Derived.Laws.OwnMore
namespace Go.Proofs.YtekjnfkmjmmcmabDoor.Wk
set_option linter.unusedVariables false
open Go.ChangeShapes Go.WideShapes Go.ChangeAt Go.RowKit

theorem infoTx : (Tryd.prog.info? 9).map (fun i => (i.zero, i.size, i.bytes)) = some (some (.string ByteArray.empty), 1, 16) := by kernel_rfl
/-- of a row's cells the first k are the devices' texts -/
def RowT (xs : List Value) (l : List Sm.St) (k : Nat) : Prop := ∀ i (h : i < l.length), i < k → xs[i]? = some (.string ⟨(Dv.wtext l[i]).toArray⟩)
theorem RowT.step {xs : List Value} {l : List Sm.St} {k : Nat} {F : ByteArray} (h : RowT xs l k) (hk : k < l.length) (hF : Hid (F = ⟨(Dv.wtext l[k]).toArray⟩)) (hlen : xs.length = l.length * 1) : RowT (xs.set k (.string F)) l (k + 1) := by
  intro i hi hik
  by_cases e : i = k
  · subst e
    rw [List.getElem?_set_self (by omega), hF.out]
  · rw [List.getElem?_set_ne (by omega)]
    exact h i hi (by omega)
theorem RowT.less {xs : List Value} {l : List Sm.St} {k : Nat} (h : RowT xs l (k + 1)) : RowT xs l k := fun i hi hk => h i hi (by omega)
theorem cell_far {w : World} {g bx k o : Nat} {v u : Value} (h : bx ≠ g) (hc : w.cell? ⟨bx, o, none⟩ = some v) : (w.setCell ⟨g, k, none⟩ u).cell? ⟨bx, o, none⟩ = some v := by
  rw [World.cell?_setCell_far _ _ _ _ (by simpa using fun e => h e.symm)]
  exact hc
/-- what is kept while a device's text is made -/
theorem keepT {W w w' : World} {bx base g n k : Nat} {v0 v1 v2 : Value} {l : List Sm.St} {T : TypeId} (h : w.cell? ⟨bx, 0, none⟩ = some v0 ∧ w.cell? ⟨bx, 1, none⟩ = some v1 ∧ w.cell? ⟨bx, 2, none⟩ = some v2 ∧ Below W.heap.size W w ∧ ∃ xs, w.ownsRow base T 1 (.slice (some ⟨g, 0, none⟩) n n) n xs ∧ RowT xs l k) (hb : Below w.heap.size w w') :
    w'.cell? ⟨bx, 0, none⟩ = some v0 ∧ w'.cell? ⟨bx, 1, none⟩ = some v1 ∧ w'.cell? ⟨bx, 2, none⟩ = some v2 ∧ Below W.heap.size W w' ∧ ∃ xs, w'.ownsRow base T 1 (.slice (some ⟨g, 0, none⟩) n n) n xs ∧ RowT xs l k := by
  obtain ⟨q0, q1, q2, hB, xs, ho, hr⟩ := h
  obtain ⟨r0, r1, r2⟩ := keep3 ⟨q0, q1, q2⟩ hb
  exact ⟨r0, r1, r2, behind hB hb, xs, ownOn ho hb, hr⟩
theorem ownDrew {w : World} {base e size n : Nat} {v : Value} {xs : List Value} (h : w.ownsRow base e size v n xs) : w.drew.ownsRow base e size v n xs := h
/-- a device's text, a piece at a time -/
theorem wordAddI (i z n : Nat) (hi : i ≤ 20) (hz : z ≤ 20) (hn : n ≤ 1000) : ∃ A B C F : ByteArray,
    binOp .add 9 (.string ⟨(Lib.decDigits i).toArray⟩) (.string ⟨#[58]⟩) = pure (.string A) ∧ binOp .add 9 (.string A) (.string ⟨(Lib.decDigits z).toArray⟩) = pure (.string B) ∧
    binOp .add 9 (.string B) (.string ⟨#[58]⟩) = pure (.string C) ∧ binOp .add 9 (.string C) (.string ⟨(Lib.decDigits n).toArray⟩) = pure (.string F) ∧ F = ⟨(Dv.wtext ((i : Int), (z : Int), (n : Int))).toArray⟩ := by
  have l1 := dec_len i (by omega)
  have l2 := dec_len z (by omega)
  have l3 := dec_len n (by omega)
  refine ⟨_, _, _, _, addL _ [58] (by simp; omega), addL _ _ (by simp; omega), addL _ [58] (by simp; omega), addL _ _ (by simp; omega), ?_⟩
  simp [Dv.wtext]

set_option maxHeartbeats 4000000 in
set_option maxRecDepth 100000 in
theorem implDText (a : Option Addr) (cap : Nat) (l : List Sm.St) (w : World) (hk : Dv.devs l = true) (hr : RdS w a l) (ht : Tab w) :
    Calls Tryd.prog 20 #[.slice a l.length cap] w fun e w' => e = .returned (.string ⟨(Dv.dtext l).toArray⟩) ∧ Below w.heap.size w w' := by
  obtain ⟨⟨h1, h12⟩, hdev⟩ := Dv.devs_dev hk
  have hwl : ∀ d ∈ l, (Dv.wtext d).length ≤ 65 := fun d hd => Dv.wtext_len (hdev d hd)
  have cD := implDevs a cap l w (by omega) hr
  rw [hk] at cD
  clear hk
  have HV : Hid (∀ d ∈ l, Dv.dev d.1 d.2.1 d.2.2 = true) := hdev
  have HW : Hid (∀ d ∈ l, (Dv.wtext d).length ≤ 65) := hwl
  clear hdev hwl
  obtain ⟨i0, hi, hz0, hz1, hz2⟩ := info_parts infoTx
  go_enter Tryd.func20, Tryd.ntmps20
  go_wp2_with fail
  refine cD.mono ?_
  rintro e w1 ⟨rfl, hb1⟩
  clear cD
  obtain ⟨w2, hrun, hown, hgrow⟩ := run_make_full (P := Tryd.prog) w1 w1.heap.size 44 9 i0 _ 1 Tryd.underlying44 hi hz0 hz1 .i64 .i64 l.length (by rw [hz2]; omega) (by unfold maxLen; omega) (Nat.le_refl _)
  have hbel : Below w.heap.size w w2 := behind hb1 ((Below.refl _ _).grown hgrow (Nat.le_refl _) (fun k h => by cases h))
  have hbg : w.heap.size ≤ w1.heap.size := hb1.size
  clear hgrow hi hz0 hz1 hz2 hb1
  go_wp2
  clear hrun
  go_loopw [14] (fun i wr => ∃ (k : Nat) (xs : List Value), k ≤ l.length ∧ i = .int .i64 k ∧ wr.ownsRow w1.heap.size 9 1 (.slice (some ⟨w1.heap.size, 0, none⟩) l.length l.length) l.length xs ∧ RowT xs l k ∧ Below w.heap.size w wr) (fun i _ => l.length - (intOf i).toNat)
  case atStart => exact ⟨0, _, Nat.zero_le _, rfl, hown, fun i h hk => by omega, hbel⟩
  case round =>
    obtain ⟨k, xs, hk, rfl, hown, hrow, hb⟩ := hrel
    clear hbel
    generalize w1.heap.size = g at hbg hown
    by_cases hlt : k < l.length
    · obtain ⟨b, off, rfl, p⟩ := (hr.below hb) k hlt
      obtain ⟨i, z, n, e1, e2, e3, hi, hz, hn⟩ := Dv.dev_nat (HV.out _ (List.getElem_mem hlt))
      obtain ⟨A, B, C, F, s1, s2, s3, s4, hF⟩ := wordAddI i z n hi hz hn
      rw [← e1, ← e2, ← e3] at hF
      have HF : Hid (F = ⟨(Dv.wtext l[k]).toArray⟩) := hF
      obtain ⟨u, hu⟩ : ∃ u, l[k] = u := ⟨_, rfl⟩
      rw [hu] at p e1 e2 e3
      obtain ⟨i', z', n'⟩ := u
      dsimp only at e1 e2 e3
      subst e1 e2 e3
      have c1 := itoaC i (by omega)
      have c2 := itoaC z (by omega)
      have c3 := itoaC n (by omega)
      have hkI : (0 : Int) ≤ (k : Int) := by omega
      have hkL : (k : Int) < (l.length : Int) := by omega
      obtain ⟨p0, p1, p2⟩ := (show _ from p)
      dsimp only at p0 p1 p2
      obtain ⟨q0, q1, q2⟩ := boxNew wr (i : Int) (z : Int) (n : Int) 63
      have hB := behind hb (bel1 wr (.cells #[.int .i64 (i : Int), .int .i64 (z : Int), .int .i64 (n : Int)] 63))
      have hownA := World.ownsRow.alloc hown (.cells #[.int .i64 (i : Int), .int .i64 (z : Int), .int .i64 (n : Int)] 63)
      have hgl : g < wr.heap.size := (World.ownsRow.lt hown g rfl).2
      have hbx : wr.heap.size ≠ g := by omega
      generalize Lib.decDigits i = D1 at s1 c1
      generalize Lib.decDigits z = D2 at s2 c2
      generalize Lib.decDigits n = D3 at s4 c3
      clear p hF HV hr hown hu
      go_upto_region 7 with fail
      refine wp_region_held_drew (S := fun wy => wy.cell? ⟨wr.heap.size, 0, none⟩ = some (.int .i64 (i : Int)) ∧ wy.cell? ⟨wr.heap.size, 1, none⟩ = some (.int .i64 (z : Int)) ∧ wy.cell? ⟨wr.heap.size, 2, none⟩ = some (.int .i64 (n : Int)) ∧ Below w.heap.size w wy ∧ ∃ xs, wy.ownsRow g 9 1 (.slice (some ⟨g, 0, none⟩) l.length l.length) l.length xs ∧ RowT xs l k) (by kernel_rfl) ⟨q0, q1, q2, hB.drew, xs, ownDrew hownA, hrow⟩ (fun hHeld => ?_)
      refine wpAnyH_take (i := 0) (oi := ?_) (v := ?_) ?_ ?_ ?_ ?_ ?_ ?_ (by assumption) ?_
      rotate_left 2
      · simp only [List.getElem?_toArray, List.getElem?_cons_zero]
        rfl
      · kernel_rfl
      · kernel_rfl
      · kernel_rfl
      · exact fun _ _ _ h => h
      · refine Or.inl ⟨by kernel_rfl, ?_⟩
        intro wS hSw
        try dsimp only at hSw
        go_simp
        try with_reducible rfl
      simp only [Act.put, List.setIfInBounds_toArray, List.set_cons_zero, List.set_cons_succ]
      refine wpAnyH_take (i := 1) (oi := ?_) (v := ?_) ?_ ?_ ?_ ?_ ?_ ?_ (by assumption) ?_
      rotate_left 2
      · simp only [List.getElem?_toArray, List.getElem?_cons_succ, List.getElem?_cons_zero]
        rfl
      · kernel_rfl
      · kernel_rfl
      · kernel_rfl
      · exact fun _ _ _ h => h
      · refine Or.inl ⟨by kernel_rfl, ?_⟩
        intro wS hSw
        try dsimp only at hSw
        go_simp
        try with_reducible rfl
      simp only [Act.put, List.setIfInBounds_toArray, List.set_cons_zero, List.set_cons_succ]
      refine wpAnyH_take (i := 2) (oi := ?_) (v := ?_) ?_ ?_ ?_ ?_ ?_ ?_ (by assumption) ?_
      rotate_left 2
      · simp only [List.getElem?_toArray, List.getElem?_cons_succ, List.getElem?_cons_zero]
        rfl
      · kernel_rfl
      · kernel_rfl
      · kernel_rfl
      · exact fun _ _ _ h => h
      · refine Or.inl ⟨by kernel_rfl, ?_⟩
        intro wS hSw
        try dsimp only at hSw
        go_simp
        try with_reducible rfl
      simp only [Act.put, List.setIfInBounds_toArray, List.set_cons_zero, List.set_cons_succ]
      refine wpAnyH_take (i := 3) (oi := ?_) (v := ?_) ?_ ?_ ?_ ?_ ?_ ?_ (by assumption) ?_
      rotate_left 2
      · simp only [List.getElem?_toArray, List.getElem?_cons_succ, List.getElem?_cons_zero]
        rfl
      · kernel_rfl
      · kernel_rfl
      · kernel_rfl
      · exact fun _ _ _ h => h
      · refine Or.inl ⟨by kernel_rfl, ?_⟩
        intro wS hSw
        try dsimp only at hSw
        go_simp
        try with_reducible rfl
      simp only [Act.put, List.setIfInBounds_toArray, List.set_cons_zero, List.set_cons_succ]
      refine wpAnyH_take (i := 6) (oi := ?_) (v := ?_) ?_ ?_ ?_ ?_ ?_ ?_ (by assumption) ?_
      rotate_left 2
      · simp only [List.getElem?_toArray, List.getElem?_cons_succ, List.getElem?_cons_zero]
        rfl
      · kernel_rfl
      · kernel_rfl
      · kernel_rfl
      · exact fun _ _ _ h => h
      · refine Or.inl ⟨by kernel_rfl, ?_⟩
        intro wS hSw
        try dsimp only at hSw
        go_simp
        try with_reducible rfl
      simp only [Act.put, List.setIfInBounds_toArray, List.set_cons_zero, List.set_cons_succ]
      refine wpAnyH_take (i := 7) (oi := ?_) (v := ?_) ?_ ?_ ?_ ?_ ?_ ?_ (by assumption) ?_
      rotate_left 2
      · simp only [List.getElem?_toArray, List.getElem?_cons_succ, List.getElem?_cons_zero]
        rfl
      · kernel_rfl
      · kernel_rfl
      · kernel_rfl
      · exact fun _ _ _ h => h
      · refine Or.inl ⟨by kernel_rfl, ?_⟩
        intro wS hSw
        try dsimp only at hSw
        go_simp
        try with_reducible rfl
      simp only [Act.put, List.setIfInBounds_toArray, List.set_cons_zero, List.set_cons_succ]
      refine wpAnyH_take (i := 11) (oi := ?_) (v := ?_) ?_ ?_ ?_ ?_ ?_ ?_ (by assumption) ?_
      rotate_left 2
      · simp only [List.getElem?_toArray, List.getElem?_cons_succ, List.getElem?_cons_zero]
        rfl
      · kernel_rfl
      · kernel_rfl
      · kernel_rfl
      · exact fun _ _ _ h => h
      · refine Or.inl ⟨by kernel_rfl, ?_⟩
        intro wS hSw
        try dsimp only at hSw
        go_simp
        try with_reducible rfl
      simp only [Act.put, List.setIfInBounds_toArray, List.set_cons_zero, List.set_cons_succ]
      refine wpAnyH_take (i := 12) (oi := ?_) (v := ?_) ?_ ?_ ?_ ?_ ?_ ?_ (by assumption) ?_
      rotate_left 2
      · simp only [List.getElem?_toArray, List.getElem?_cons_succ, List.getElem?_cons_zero]
        rfl
      · kernel_rfl
      · kernel_rfl
      · kernel_rfl
      · exact fun _ _ _ h => h
      · refine Or.inl ⟨by kernel_rfl, ?_⟩
        intro wS hSw
        try dsimp only at hSw
        go_simp
        try with_reducible rfl
      simp only [Act.put, List.setIfInBounds_toArray, List.set_cons_zero, List.set_cons_succ]
      refine wpAnyH_ready (rs := [4]) (by kernel_rfl) (by simp) ?_
      refine AllReadyH.cons rfl (fun K hK => ?_) ?_
      rotate_left
      · exact AllReadyH.nil
      go_simp
      refine (c1 _ (ht.on hHeld.2.2.2.1)).mono ?_
      rintro e w2 ⟨rfl, hb2⟩
      go_wp2_with fail
      refine hK.out _ _ ?_ (fun hHeld => ?_)
      · exact keepT hHeld hb2
      clear hK K
      try simp only [Act.put, List.setIfInBounds_toArray, List.set_cons_zero, List.set_cons_succ]
      refine wpAnyH_take (i := 5) (oi := ?_) (v := ?_) ?_ ?_ ?_ ?_ ?_ ?_ (by assumption) ?_
      rotate_left 2
      · simp only [List.getElem?_toArray, List.getElem?_cons_succ, List.getElem?_cons_zero]
        rfl
      · kernel_rfl
      · kernel_rfl
      · kernel_rfl
      · exact fun _ _ _ h => h
      · refine Or.inl ⟨by kernel_rfl, ?_⟩
        intro wS hSw
        try dsimp only at hSw
        go_simp
        try with_reducible rfl
      simp only [Act.put, List.setIfInBounds_toArray, List.set_cons_zero, List.set_cons_succ]
      refine wpAnyH_ready (rs := [8]) (by kernel_rfl) (by simp) ?_
      refine AllReadyH.cons rfl (fun K hK => ?_) ?_
      rotate_left
      · exact AllReadyH.nil
      go_simp
      refine (c2 _ (ht.on hHeld.2.2.2.1)).mono ?_
      rintro e w3 ⟨rfl, hb3⟩
      go_wp2_with fail
      refine hK.out _ _ ?_ (fun hHeld => ?_)
      · exact keepT hHeld hb3
      clear hK K
      try simp only [Act.put, List.setIfInBounds_toArray, List.set_cons_zero, List.set_cons_succ]
      refine wpAnyH_take (i := 9) (oi := ?_) (v := ?_) ?_ ?_ ?_ ?_ ?_ ?_ (by assumption) ?_
      rotate_left 2
      · simp only [List.getElem?_toArray, List.getElem?_cons_succ, List.getElem?_cons_zero]
        rfl
      · kernel_rfl
      · kernel_rfl
      · kernel_rfl
      · exact fun _ _ _ h => h
      · refine Or.inl ⟨by kernel_rfl, ?_⟩
        intro wS hSw
        try dsimp only at hSw
        go_simp
        try with_reducible rfl
      simp only [Act.put, List.setIfInBounds_toArray, List.set_cons_zero, List.set_cons_succ]
      refine wpAnyH_take (i := 10) (oi := ?_) (v := ?_) ?_ ?_ ?_ ?_ ?_ ?_ (by assumption) ?_
      rotate_left 2
      · simp only [List.getElem?_toArray, List.getElem?_cons_succ, List.getElem?_cons_zero]
        rfl
      · kernel_rfl
      · kernel_rfl
      · kernel_rfl
      · exact fun _ _ _ h => h
      · refine Or.inl ⟨by kernel_rfl, ?_⟩
        intro wS hSw
        try dsimp only at hSw
        go_simp
        try with_reducible rfl
      simp only [Act.put, List.setIfInBounds_toArray, List.set_cons_zero, List.set_cons_succ]
      refine wpAnyH_ready (rs := [13]) (by kernel_rfl) (by simp) ?_
      refine AllReadyH.cons rfl (fun K hK => ?_) ?_
      rotate_left
      · exact AllReadyH.nil
      go_simp
      refine (c3 _ (ht.on hHeld.2.2.2.1)).mono ?_
      rintro e w4 ⟨rfl, hb4⟩
      go_wp2_with fail
      refine hK.out _ _ ?_ (fun hHeld => ?_)
      · exact keepT hHeld hb4
      clear hK K
      try simp only [Act.put, List.setIfInBounds_toArray, List.set_cons_zero, List.set_cons_succ]
      refine wpAnyH_take (i := 14) (oi := ?_) (v := ?_) ?_ ?_ ?_ ?_ ?_ ?_ (by assumption) ?_
      rotate_left 2
      · simp only [List.getElem?_toArray, List.getElem?_cons_succ, List.getElem?_cons_zero]
        rfl
      · kernel_rfl
      · kernel_rfl
      · kernel_rfl
      · exact fun _ _ _ h => h
      · refine Or.inl ⟨by kernel_rfl, ?_⟩
        intro wS hSw
        try dsimp only at hSw
        go_simp
        try with_reducible rfl
      simp only [Act.put, List.setIfInBounds_toArray, List.set_cons_zero, List.set_cons_succ]
      refine wpAnyH_take (i := 15) (oi := ?_) (v := ?_) ?_ ?_ ?_ ?_ ?_ ?_ (by assumption) ?_
      rotate_left 2
      · simp only [List.getElem?_toArray, List.getElem?_cons_succ, List.getElem?_cons_zero]
        rfl
      · kernel_rfl
      · kernel_rfl
      · kernel_rfl
      · exact fun _ _ _ h => h
      · refine Or.inl ⟨by kernel_rfl, ?_⟩
        intro wS hSw
        try dsimp only at hSw
        go_simp
        try with_reducible rfl
      simp only [Act.put, List.setIfInBounds_toArray, List.set_cons_zero, List.set_cons_succ]
      refine wpAnyH_ready (rs := [16]) (by kernel_rfl) (by simp) ?_
      refine AllReadyH.cons rfl (fun K hK => ?_) ?_
      rotate_left
      · exact AllReadyH.nil
      obtain ⟨q0, q1, q2, hB4, ys, hown4, hrow4⟩ := id hHeld
      have hlen4 := hown4.1
      have hf4 := hown4.frozenAt k
      have hc4 := hown4.cellAt k (by omega)
      rw [List.getElem?_eq_getElem (by omega)] at hc4
      go_simp
      have hst := (hown4.stored k (.string F)).1
      have hrs := hrow4.step hlt HF hlen4
      have hBs := hB4.setCell (p := ⟨g, k, none⟩) hbg (.string F)
      refine hK.out _ _ ?_ (fun hHeld => ?_)
      · exact ⟨cell_far hbx q0, cell_far hbx q1, cell_far hbx q2, hBs, _, hst, hrs.less⟩
      clear hK K
      try simp only [Act.put, List.setIfInBounds_toArray, List.set_cons_zero, List.set_cons_succ]
      refine wpAnyH_done (by kernel_rfl) ?_ _
      go_wp2
      go_roundw
      case rel => exact ⟨k + 1, _, by omega, by go_num, hst, hrs, hBs⟩
      case measure => simp [intOf]; omega
    · have hkl : k = l.length := by omega
      subst hkl
      have hcells : ∀ (j : Nat) x, (l.map fun d => (⟨(Dv.wtext d).toArray⟩ : ByteArray))[j]? = some x → wr.cell? ⟨g, 0 + j, none⟩ = some (.string x) := by
        intro j x hx
        rw [List.getElem?_map, Option.map_eq_some_iff] at hx
        obtain ⟨d, hd, rfl⟩ := hx
        obtain ⟨hj, rfl⟩ := List.getElem?_eq_some_iff.1 hd
        rw [Nat.zero_add, hown.cellAt j (by omega)]
        exact hrow j hj hj
      have hmap : (l.map fun d => (⟨(Dv.wtext d).toArray⟩ : ByteArray)).map (·.data.toList) = l.map Dv.wtext := by simp
      have hjl := Dv.dtext_len l HW.out
      have cJ := Tryd.strings_Join g 0 l.length (l.map fun d => (⟨(Dv.wtext d).toArray⟩ : ByteArray)) ⟨#[32]⟩ wr hcells (World.ownsRow.lt hown g rfl).2 (by rw [List.length_map]; omega) (by rw [List.length_map]; exact Nat.le_refl _) (by rw [hmap]; exact Nat.le_trans hjl (by omega))
      rw [hmap, List.length_map] at cJ
      clear hcells hmap hrow HV HW
      go_wp2_with fail
      refine cJ.mono ?_
      rintro e w3 ⟨rfl, hb3⟩
      go_wp2
      go_ret
      exact ⟨rfl, behind hb hb3⟩

set_option maxHeartbeats 1000000 in
set_option maxRecDepth 100000 in
theorem implDTextNo (a : Option Addr) (cap : Nat) (l : List Sm.St) (w : World) (hl : l.length ≤ 1048576) (hk : Dv.devs l = false) (hr : RdS w a l) :
    Calls Tryd.prog 20 #[.slice a l.length cap] w fun e w' => e = .returned (.string ⟨#[]⟩) ∧ Below w.heap.size w w' := by
  have cD := implDevs a cap l w (by omega) hr
  rw [hk] at cD
  clear hk
  go_enter Tryd.func20, Tryd.ntmps20
  go_wp2_with fail
  refine cD.mono ?_
  rintro e w1 ⟨rfl, hb1⟩
  go_wp2
  go_ret
  exact ⟨rfl, hb1⟩
end Go.Proofs.YtekjnfkmjmmcmabDoor.Wk
