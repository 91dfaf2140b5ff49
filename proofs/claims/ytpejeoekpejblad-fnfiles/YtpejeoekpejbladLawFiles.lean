/- For every slice of bytes the law FnFiles returns true: a drawn file that is right comes back of its bytes, with its sum; with a bit of one byte turned none comes back; of one that is not right there are no bytes. Conditions: none beyond the row's own; above 2^20 bytes the law itself answers true. -/
import Derived.Test.YtpejeoekpejbladRows
import Derived.Test.YtpejeoekpejbladFqI
import Derived.Test.YtpejeoekpejbladGgI
import Derived.Test.YtpejeoekpejbladGtM
import Derived.Test.YtpejeoekpejbladDrFa
import Derived.Test.YtpejeoekpejbladDrFg
import Derived.Test.YtpejeoekpejbladSmFl
import Derived.Test.YtpejeoekpejbladAtW
import Derived.Test.YtpejeoekpejbladFlI
import Derived.WalkKit
import Derived.Deep.DeepCutAuto
import Derived.ProofKit
import Derived.OpenShut
import Derived.ShutString
import Derived.ChangeOld
import Derived.Below
namespace Go.Proofs.Ytpejeoekpejblad.fnFiles
open Go.ChangeShapes Go.WideShapes Go.ChangeAt Go.RowKit
open Go.ChangeMaps (open_string shut_string)
set_option linter.unusedVariables false

theorem own : ownKnob Try.prog.godebug = none := by kernel_rfl
theorem laidOut : laidOutB Try.prog = true := by kernel_rfl

open Wk

set_option maxHeartbeats 16000000 in
set_option maxRecDepth 100000 in
theorem walk (a0 : Option Addr) (len0 cap0 : Nat) (z0 : List Int) (w : World) (w0 : IsRow .u8 w a0 len0 cap0 z0) :
    Calls Try.prog 3 #[.slice a0 len0 cap0] w fun e w' => e = .returned (.bool true) ∧ Below w.heap.size w w' := by
  obtain ⟨l, rfl, hlc, hcm, hr⟩ := w0.rd
  clear w0
  obtain ⟨i0, hi, hz0, hz1, hz2⟩ := info_parts Try.info5
  by_cases hb : l.length ≤ 1048576
  · go_enter Try.func3, Try.ntmps3
    go_wp2_with (go_at_call 5; go_in)
    go_wp2_with fail
    refine (drawFl a0 cap0 l _ hb hr).mono ?_
    rintro e w1 ⟨t, q, n, D, v, data, rfl, hdl, hv, B1⟩
    obtain ⟨ad, cp, rfl, hrd, hnil⟩ := hv.form
    have b2 := bel1 w1 (.cells #[.int .i64 t, .int .i64 q, .int .i64 n, .bool D, .slice ad data.length cp] 27)
    have s2 := slot5fNew w1 (.int .i64 t) (.int .i64 q) (.int .i64 n) (.bool D) (.slice ad data.length cp) 27
    have hr2 := hrd.below b2
    have B2 := behind B1 b2
    have hv2 : OwnB (w1.alloc (.cells #[.int .i64 t, .int .i64 q, .int .i64 n, .bool D, .slice ad data.length cp] 27)) w.heap.size (.slice ad data.length cp) data := ownBelow hv b2
    have hvn : (Value.slice ad data.length cp).ownBlock ≠ some w1.heap.size := fun hj => by have := (World.ownsRow.lt hv _ hj).2; omega
    have m2 := s2.lt
    clear hv hrd
    go_upto_region 4 with fail
    generalize w1.alloc (.cells #[.int .i64 t, .int .i64 q, .int .i64 n, .bool D, .slice ad data.length cp] 27) = w2 at b2 s2 hr2 B2 hv2 m2 ⊢
    obtain ⟨⟨x0, x1, x2, x3, x4⟩, -⟩ := id s2
    have hB0 := fun h => getF_back t q n D data h
    have cPd := fun wx (h : RdA wx ad data) => implPut t q n D ad cp data wx (by omega) h hnil
    have cFs := fun wx => specFile t q n D ad data.length cp wx (by omega)
    have cFi := fun wx => implFile t q n D ad data.length cp wx (by omega)
    have hL1 := fileBytes_len t q n D data
    have hL0 := fun h => fileBytes_pos t q n D data h
    have hLn := (show fileB t q n D data.length = false → fileBytes t q n D data = [] from fun h => by unfold fileBytes; rw [h]; rfl)
    generalize fileBytes t q n D data = L at hB0 cPd hL1 hL0 hLn
    go_wp2_with fail
    refine (cPd _ hr2).mono ?_
    rintro e w3 ⟨g3, c3, rfl, ho3, hb3⟩
    have s3 := s2.below hb3
    have B3 := behind B2 hb3
    have hv3 : OwnB w3 w.heap.size (.slice ad data.length cp) data := ownBelow hv2 hb3
    have q3 := World.ownsRow.lt ho3 g3 rfl
    clear x0 x1 x2 x3 x4 s2 hv2 B2 hr2 b2 hb3
    obtain ⟨⟨x0, x1, x2, x3, x4⟩, -⟩ := id s3
    go_wp2_with fail
    refine (cFs _).mono ?_
    cases hK : fileB t q n D data.length with
    | false =>
      rintro e w4 ⟨rfl, hb4⟩
      rw [hK] at cFi
      have eL := hLn hK
      subst eL
      obtain ⟨⟨x0, x1, x2, x3, x4⟩, -⟩ := s3.below hb4
      have B4 := behind B3 hb4
      clear hB0 hL0 hL1 hLn cPd
      go_wp2_with fail
      refine (cFi _).mono ?_
      rintro e w5 ⟨rfl, hb5⟩
      go_wp2
      go_ret
      exact ⟨rfl, behind B4 hb5⟩
    | true =>
      rintro e w4 ⟨rfl, hb4⟩
      rw [hK] at cFi
      replace hL0 := hL0 hK
      replace hB0 := hB0 hK
      have s4 := s3.below hb4
      have B4 := behind B3 hb4
      have hv4 : OwnB w4 w.heap.size (.slice ad data.length cp) data := ownBelow hv3 hb4
      have ho4 : OwnB w4 w2.heap.size (.slice (some ⟨g3, 0, none⟩) L.length c3) L := ownBelow ho3 hb4
      obtain ⟨g', c', e', -, -, hLc, hcm3⟩ := ho4.shape hL0
      cases e'
      have m4 := hb4.size
      clear x0 x1 x2 x3 x4 s3 hv3 ho3 B3 hb4 hLn cPd cFs
      have cG := fun (g c : Nat) (r : List UInt8) (wx : World) (h1 : r.length ≤ c) (h2 : c ≤ maxLen) (h3 : r.length ≤ 1048576) (h : RdA wx (some ⟨g, 0, none⟩) r) => implGetFile (some ⟨g, 0, none⟩) c r wx h3 h1 h2 h
      simp only [implF_eq] at cG
      go_wp2_with fail
      refine (cG _ _ _ _ hLc hcm3 (by omega) (RdA.own ho4)).mono ?_
      rw [hB0]
      rintro e w5 ⟨⟨g5, c5, rfl, ho5⟩, hb5⟩
      simp only [] at ho5
      have b6 := bel1 w5 (.cells #[.int .i64 t, .int .i64 q, .int .i64 n, .bool D, .slice (some ⟨g5, 0, none⟩) data.length c5] 27)
      have y6 := slot5fNew w5 (.int .i64 t) (.int .i64 q) (.int .i64 n) (.bool D) (.slice (some ⟨g5, 0, none⟩) data.length c5) 27
      have s6 := (s4.below hb5).below b6
      have B6 := behind (behind B4 hb5) b6
      have hv6 : OwnB (w5.alloc (.cells #[.int .i64 t, .int .i64 q, .int .i64 n, .bool D, .slice (some ⟨g5, 0, none⟩) data.length c5] 27)) w.heap.size (.slice ad data.length cp) data := ownBelow (ownBelow hv4 hb5) b6
      have ho6 : OwnB (w5.alloc (.cells #[.int .i64 t, .int .i64 q, .int .i64 n, .bool D, .slice (some ⟨g5, 0, none⟩) data.length c5] 27)) w2.heap.size (.slice (some ⟨g3, 0, none⟩) L.length c3) L := ownBelow (ownBelow ho4 hb5) b6
      have hX6 : OwnB (w5.alloc (.cells #[.int .i64 t, .int .i64 q, .int .i64 n, .bool D, .slice (some ⟨g5, 0, none⟩) data.length c5] 27)) w4.heap.size (.slice (some ⟨g5, 0, none⟩) data.length c5) data := ownBelow ho5 b6
      have q5 := World.ownsRow.lt ho5 g5 rfl
      have m5 := hb5.size
      have m6 := y6.lt
      clear s4 B4 hv4 ho4 ho5 hb5
      go_upto_region 8 with fail
      generalize w5.alloc (.cells #[.int .i64 t, .int .i64 q, .int .i64 n, .bool D, .slice (some ⟨g5, 0, none⟩) data.length c5] 27) = w6 at b6 y6 s6 B6 hv6 ho6 hX6 m6 ⊢
      have hown1 : (w6.alloc (.cells #[] 5)).ownsRow w6.heap.size 5 1 (.slice (some ⟨w6.heap.size, 0, none⟩) 0 0) 0 [] := World.ownsRow_made w6 #[] 0 (Nat.le_refl _) (Nat.zero_le _) rfl
      have hr1 : RdA (w6.alloc (.cells #[] 5)) (some ⟨g3, 0, none⟩) L := (RdA.own ho6).below (bel1 w6 _)
      go_wp2_with (first | (at_builtin; refine wpList_append_own _ rfl (.tmp 32) (.tmp 33) 22 rfl w6.heap.size 5 i0 (.int .u8 0) 1 1 Try.underlying22 hi hz0 hz1 hz2 rfl (by decide) (.slice (some ⟨w6.heap.size, 0, none⟩) 0 0) 0 [] rfl hown1 ⟨g3, 0, none⟩ L.length c3 (By L) rfl (by simp [By_length]) hr1.news (By_one L) (by unfold maxLen; omega) (by omega) (by simp) ?_; intro xv w7 hown7 hgrow7 hnil7) | fail)
      have hb7 : Below w6.heap.size w6 w7 := ((Below.refl _ _).alloc (Nat.le_refl _) _).grown hgrow7 (by simp) (fun j hj => (hown1.lt j hj).1)
      have ho7 : OwnB w7 w6.heap.size xv L := OwnB.all hown7
      clear hown7 hgrow7 hnil7 hown1 hr1
      obtain ⟨gx, cx, rfl, hgx1, hgx2, hgx3, hgx4⟩ := ho7.shape hL0
      have s7 := s6.below hb7
      have y7 := y6.below hb7
      have B7 := behind B6 hb7
      have hv7 : OwnB w7 w.heap.size (.slice ad data.length cp) data := ownBelow hv6 hb7
      have hX7 : OwnB w7 w4.heap.size (.slice (some ⟨g5, 0, none⟩) data.length c5) data := ownBelow hX6 hb7
      have qv := World.ownsRow.lt hv6
      have B6s := B6.size
      clear s6 y6 hv6 ho6 hX6 b6 B6
      have hx2 := atV_le l 2
      have hx3 := atV_le l 3
      have hrw := hr.below B7
      have cA2 := fun wx h => atC a0 cap0 2 l wx hb (by omega) (by omega) h
      have cA3 := fun wx h => atC a0 cap0 3 l wx hb (by omega) (by omega) h
      generalize atV l 2 = x2 at hx2 cA2
      obtain ⟨hx20, hx21⟩ := hx2
      obtain ⟨k, hk⟩ : ∃ k : Nat, x2.tmod (L.length : Int) = (k : Int) := ⟨(x2 % (L.length : Int)).toNat, by rw [Int.tmod_eq_emod_of_nonneg hx20]; have := Int.emod_nonneg x2 (show (L.length : Int) ≠ 0 by omega); omega⟩
      have hkL : k < L.length := by have h1 := Int.emod_lt_of_pos x2 (show 0 < (L.length : Int) by omega); rw [Int.tmod_eq_emod_of_nonneg hx20] at hk; omega
      have hcx : w7.cell? ⟨gx, k, none⟩ = some (.int .u8 (L[k].toNat : Int)) := by rw [World.ownsRow.cellAt ho7 k (by omega)]; exact By_get L k hkL
      have hfx := World.ownsRow.frozenAt ho7 k
      obtain ⟨y, HY, hyne⟩ : ∃ y : UInt8, Hid (bits .xor .u8 (L[k].toNat : Int) (IntKind.u8.wrap (2 ^ min (IntKind.u64.wrap ((atV l 3).tmod 8)).toNat 8)) = (y.toNat : Int)) ∧ y ≠ L[k] := Mt.turned L[k] (atV l 3) hx3.1 hx3.2
      have hLz : ¬ (L.length : Int) = 0 := by omega
      have hLz2 : ¬ L.length = 0 := by omega
      have hLz3 : ¬ L = [] := fun e => by rw [e] at hL0; simp at hL0
      have hk2 : x2 % (L.length : Int) = (k : Int) := by rw [← hk, Int.tmod_eq_emod_of_nonneg hx20]
      have hst := World.ownsRow.stored (w := w7.drew) ho7 k (.int .u8 (y.toNat : Int))
      rw [By_set] at hst
      obtain ⟨hZ8, hgZ8⟩ := hst
      go_upto_region 9 with fail
      go_cut [7] (fun v wx => v = .slice (some ⟨gx, 0, none⟩) L.length cx ∧ wx = w7.drew.setCell ⟨gx, k, none⟩ (.int .u8 (y.toNat : Int)))
      case first =>
        refine wp_region_held_drew (S := fun _ => True) (by kernel_rfl) trivial (fun hHeld => ?_)
        refine wpAnyH_take (i := 0) (oi := ?_) (v := ?_) ?_ ?_ ?_ ?_ ?_ ?_ (by assumption) ?_
        rotate_left 2
        · simp only [List.getElem?_toArray, List.getElem?_cons_zero]
          rfl
        · kernel_rfl
        · kernel_rfl
        · kernel_rfl
        · exact fun _ _ _ h => h
        · refine Or.inl ⟨by kernel_rfl, ?_⟩
          intro wS hSw
          try dsimp only at hSw
          go_simp
          try with_reducible rfl
        simp only [Act.put, List.setIfInBounds_toArray, List.set_cons_zero, List.set_cons_succ]
        refine wpAnyH_take (i := 1) (oi := ?_) (v := ?_) ?_ ?_ ?_ ?_ ?_ ?_ (by assumption) ?_
        rotate_left 2
        · simp only [List.getElem?_toArray, List.getElem?_cons_succ, List.getElem?_cons_zero]
          rfl
        · kernel_rfl
        · kernel_rfl
        · kernel_rfl
        · exact fun _ _ _ h => h
        · refine Or.inl ⟨by kernel_rfl, ?_⟩
          intro wS hSw
          try dsimp only at hSw
          go_simp
          try with_reducible rfl
        simp only [Act.put, List.setIfInBounds_toArray, List.set_cons_zero, List.set_cons_succ]
        refine wpAnyH_take (i := 3) (oi := ?_) (v := ?_) ?_ ?_ ?_ ?_ ?_ ?_ (by assumption) ?_
        rotate_left 2
        · simp only [List.getElem?_toArray, List.getElem?_cons_succ, List.getElem?_cons_zero]
          rfl
        · kernel_rfl
        · kernel_rfl
        · kernel_rfl
        · exact fun _ _ _ h => h
        · refine Or.inl ⟨by kernel_rfl, ?_⟩
          intro wS hSw
          try dsimp only at hSw
          go_simp
          try with_reducible rfl
        simp only [Act.put, List.setIfInBounds_toArray, List.set_cons_zero, List.set_cons_succ]
        refine wpAnyH_take (i := 4) (oi := ?_) (v := ?_) ?_ ?_ ?_ ?_ ?_ ?_ (by assumption) ?_
        rotate_left 2
        · simp only [List.getElem?_toArray, List.getElem?_cons_succ, List.getElem?_cons_zero]
          rfl
        · kernel_rfl
        · kernel_rfl
        · kernel_rfl
        · exact fun _ _ _ h => h
        · refine Or.inl ⟨by kernel_rfl, ?_⟩
          intro wS hSw
          try dsimp only at hSw
          go_simp
          try with_reducible rfl
        simp only [Act.put, List.setIfInBounds_toArray, List.set_cons_zero, List.set_cons_succ]
        refine wpAnyH_take (i := 8) (oi := ?_) (v := ?_) ?_ ?_ ?_ ?_ ?_ ?_ (by assumption) ?_
        rotate_left 2
        · simp only [List.getElem?_toArray, List.getElem?_cons_succ, List.getElem?_cons_zero]
          rfl
        · kernel_rfl
        · kernel_rfl
        · kernel_rfl
        · exact fun _ _ _ h => h
        · refine Or.inl ⟨by kernel_rfl, ?_⟩
          intro wS hSw
          try dsimp only at hSw
          go_simp
          try with_reducible rfl
        simp only [Act.put, List.setIfInBounds_toArray, List.set_cons_zero, List.set_cons_succ]
        refine wpAnyH_ready (rs := [2]) (by kernel_rfl) (by simp) ?_
        refine AllReadyH.cons rfl (fun K hK => ?_) ?_
        rotate_left
        · exact AllReadyH.nil
        go_simp
        refine (cA2 _ (by exact hrw)).mono ?_
        rintro e w8 ⟨rfl, rfl⟩
        go_wp2_with fail
        refine hK.out _ _ ?_ (fun hHeld => ?_)
        · trivial
        clear hK K
        try simp only [Act.put, List.setIfInBounds_toArray, List.set_cons_zero, List.set_cons_succ]
        refine wpAnyH_take (i := 5) (oi := ?_) (v := ?_) ?_ ?_ ?_ ?_ ?_ ?_ (by assumption) ?_
        rotate_left 2
        · simp only [List.getElem?_toArray, List.getElem?_cons_succ, List.getElem?_cons_zero]
          rfl
        · kernel_rfl
        · kernel_rfl
        · kernel_rfl
        · exact fun _ _ _ h => h
        · refine Or.inl ⟨by kernel_rfl, ?_⟩
          intro wS hSw
          try dsimp only at hSw
          go_simp
          try with_reducible rfl
        simp only [Act.put, List.setIfInBounds_toArray, List.set_cons_zero, List.set_cons_succ]
        refine wpAnyH_take (i := 6) (oi := ?_) (v := ?_) ?_ ?_ ?_ ?_ ?_ ?_ (by assumption) ?_
        rotate_left 2
        · simp only [List.getElem?_toArray, List.getElem?_cons_succ, List.getElem?_cons_zero]
          rfl
        · kernel_rfl
        · kernel_rfl
        · kernel_rfl
        · exact fun _ _ _ h => h
        · refine Or.inl ⟨by kernel_rfl, ?_⟩
          intro wS hSw
          try dsimp only at hSw
          go_simp
          try with_reducible rfl
        simp only [Act.put, List.setIfInBounds_toArray, List.set_cons_zero, List.set_cons_succ]
        refine wpAnyH_ready (rs := [7, 9]) (by kernel_rfl) (by simp) ?_
        refine AllReadyH.cons rfl (fun K hK => ?_) (AllReadyH.cons rfl (fun K hK => ?_) AllReadyH.nil)
        · go_simp
          refine hK.out _ _ trivial (fun hHeld => ?_)
          clear hK K
          try simp only [Act.put, List.setIfInBounds_toArray, List.set_cons_zero, List.set_cons_succ]
          refine wpAnyH_ready (rs := [9]) (by kernel_rfl) (by simp) ?_
          refine AllReadyH.cons rfl (fun K hK => ?_) ?_
          rotate_left
          · exact AllReadyH.nil
          go_simp
          refine (cA3 _ (by exact hrw)).mono ?_
          rintro e w9 ⟨rfl, rfl⟩
          go_wp2_with fail
          refine hK.out _ _ ?_ (fun hHeld => ?_)
          · trivial
          clear hK K
          try simp only [Act.put, List.setIfInBounds_toArray, List.set_cons_zero, List.set_cons_succ]
          refine wpAnyH_take (i := 10) (oi := ?_) (v := ?_) ?_ ?_ ?_ ?_ ?_ ?_ (by assumption) ?_
          rotate_left 2
          · simp only [List.getElem?_toArray, List.getElem?_cons_succ, List.getElem?_cons_zero]
            rfl
          · kernel_rfl
          · kernel_rfl
          · kernel_rfl
          · exact fun _ _ _ h => h
          · refine Or.inl ⟨by kernel_rfl, ?_⟩
            intro wS hSw
            try dsimp only at hSw
            go_simp
            try with_reducible rfl
          simp only [Act.put, List.setIfInBounds_toArray, List.set_cons_zero, List.set_cons_succ]
          refine wpAnyH_take (i := 11) (oi := ?_) (v := ?_) ?_ ?_ ?_ ?_ ?_ ?_ (by assumption) ?_
          rotate_left 2
          · simp only [List.getElem?_toArray, List.getElem?_cons_succ, List.getElem?_cons_zero]
            rfl
          · kernel_rfl
          · kernel_rfl
          · kernel_rfl
          · exact fun _ _ _ h => h
          · refine Or.inl ⟨by kernel_rfl, ?_⟩
            intro wS hSw
            try dsimp only at hSw
            go_simp
            try with_reducible rfl
          simp only [Act.put, List.setIfInBounds_toArray, List.set_cons_zero, List.set_cons_succ]
          refine wpAnyH_take (i := 12) (oi := ?_) (v := ?_) ?_ ?_ ?_ ?_ ?_ ?_ (by assumption) ?_
          rotate_left 2
          · simp only [List.getElem?_toArray, List.getElem?_cons_succ, List.getElem?_cons_zero]
            rfl
          · kernel_rfl
          · kernel_rfl
          · kernel_rfl
          · exact fun _ _ _ h => h
          · refine Or.inl ⟨by kernel_rfl, ?_⟩
            intro wS hSw
            try dsimp only at hSw
            go_simp
            try with_reducible rfl
          simp only [Act.put, List.setIfInBounds_toArray, List.set_cons_zero, List.set_cons_succ]
          refine wpAnyH_take (i := 13) (oi := ?_) (v := ?_) ?_ ?_ ?_ ?_ ?_ ?_ (by assumption) ?_
          rotate_left 2
          · simp only [List.getElem?_toArray, List.getElem?_cons_succ, List.getElem?_cons_zero]
            rfl
          · kernel_rfl
          · kernel_rfl
          · kernel_rfl
          · exact fun _ _ _ h => h
          · refine Or.inl ⟨by kernel_rfl, ?_⟩
            intro wS hSw
            try dsimp only at hSw
            go_simp
            try with_reducible rfl
          simp only [Act.put, List.setIfInBounds_toArray, List.set_cons_zero, List.set_cons_succ]
          refine wpAnyH_take (i := 14) (oi := ?_) (v := ?_) ?_ ?_ ?_ ?_ ?_ ?_ (by assumption) ?_
          rotate_left 2
          · simp only [List.getElem?_toArray, List.getElem?_cons_succ, List.getElem?_cons_zero]
            rfl
          · kernel_rfl
          · kernel_rfl
          · kernel_rfl
          · exact fun _ _ _ h => h
          · refine Or.inl ⟨by kernel_rfl, ?_⟩
            intro wS hSw
            try dsimp only at hSw
            go_simp
            try with_reducible rfl
          simp only [Act.put, List.setIfInBounds_toArray, List.set_cons_zero, List.set_cons_succ]
          refine wpAnyH_ready (rs := [15]) (by kernel_rfl) (by simp) ?_
          refine AllReadyH.cons rfl (fun K hK => ?_) ?_
          rotate_left
          · exact AllReadyH.nil
          go_simp
          refine hK.out _ _ ?_ (fun hHeld => ?_)
          · trivial
          clear hK K
          try simp only [Act.put, List.setIfInBounds_toArray, List.set_cons_zero, List.set_cons_succ]
          refine wpAnyH_done (by kernel_rfl) ?_ _
          rw [HY.out]
          go_wp2_with fail
          go_meet
          exact ⟨rfl, rfl⟩
        · go_simp
          refine (cA3 _ (by exact hrw)).mono ?_
          rintro e w9 ⟨rfl, rfl⟩
          go_wp2_with fail
          refine hK.out _ _ trivial (fun hHeld => ?_)
          clear hK K
          try simp only [Act.put, List.setIfInBounds_toArray, List.set_cons_zero, List.set_cons_succ]
          refine wpAnyH_take (i := 10) (oi := ?_) (v := ?_) ?_ ?_ ?_ ?_ ?_ ?_ (by assumption) ?_
          rotate_left 2
          · simp only [List.getElem?_toArray, List.getElem?_cons_succ, List.getElem?_cons_zero]
            rfl
          · kernel_rfl
          · kernel_rfl
          · kernel_rfl
          · exact fun _ _ _ h => h
          · refine Or.inl ⟨by kernel_rfl, ?_⟩
            intro wS hSw
            try dsimp only at hSw
            go_simp
            try with_reducible rfl
          simp only [Act.put, List.setIfInBounds_toArray, List.set_cons_zero, List.set_cons_succ]
          refine wpAnyH_take (i := 11) (oi := ?_) (v := ?_) ?_ ?_ ?_ ?_ ?_ ?_ (by assumption) ?_
          rotate_left 2
          · simp only [List.getElem?_toArray, List.getElem?_cons_succ, List.getElem?_cons_zero]
            rfl
          · kernel_rfl
          · kernel_rfl
          · kernel_rfl
          · exact fun _ _ _ h => h
          · refine Or.inl ⟨by kernel_rfl, ?_⟩
            intro wS hSw
            try dsimp only at hSw
            go_simp
            try with_reducible rfl
          simp only [Act.put, List.setIfInBounds_toArray, List.set_cons_zero, List.set_cons_succ]
          refine wpAnyH_take (i := 12) (oi := ?_) (v := ?_) ?_ ?_ ?_ ?_ ?_ ?_ (by assumption) ?_
          rotate_left 2
          · simp only [List.getElem?_toArray, List.getElem?_cons_succ, List.getElem?_cons_zero]
            rfl
          · kernel_rfl
          · kernel_rfl
          · kernel_rfl
          · exact fun _ _ _ h => h
          · refine Or.inl ⟨by kernel_rfl, ?_⟩
            intro wS hSw
            try dsimp only at hSw
            go_simp
            try with_reducible rfl
          simp only [Act.put, List.setIfInBounds_toArray, List.set_cons_zero, List.set_cons_succ]
          refine wpAnyH_ready (rs := [7]) (by kernel_rfl) (by simp) ?_
          refine AllReadyH.cons rfl (fun K hK => ?_) ?_
          rotate_left
          · exact AllReadyH.nil
          go_simp
          refine hK.out _ _ ?_ (fun hHeld => ?_)
          · trivial
          clear hK K
          try simp only [Act.put, List.setIfInBounds_toArray, List.set_cons_zero, List.set_cons_succ]
          refine wpAnyH_take (i := 13) (oi := ?_) (v := ?_) ?_ ?_ ?_ ?_ ?_ ?_ (by assumption) ?_
          rotate_left 2
          · simp only [List.getElem?_toArray, List.getElem?_cons_succ, List.getElem?_cons_zero]
            rfl
          · kernel_rfl
          · kernel_rfl
          · kernel_rfl
          · exact fun _ _ _ h => h
          · refine Or.inl ⟨by kernel_rfl, ?_⟩
            intro wS hSw
            try dsimp only at hSw
            go_simp
            try with_reducible rfl
          simp only [Act.put, List.setIfInBounds_toArray, List.set_cons_zero, List.set_cons_succ]
          refine wpAnyH_take (i := 14) (oi := ?_) (v := ?_) ?_ ?_ ?_ ?_ ?_ ?_ (by assumption) ?_
          rotate_left 2
          · simp only [List.getElem?_toArray, List.getElem?_cons_succ, List.getElem?_cons_zero]
            rfl
          · kernel_rfl
          · kernel_rfl
          · kernel_rfl
          · exact fun _ _ _ h => h
          · refine Or.inl ⟨by kernel_rfl, ?_⟩
            intro wS hSw
            try dsimp only at hSw
            go_simp
            try with_reducible rfl
          simp only [Act.put, List.setIfInBounds_toArray, List.set_cons_zero, List.set_cons_succ]
          refine wpAnyH_ready (rs := [15]) (by kernel_rfl) (by simp) ?_
          refine AllReadyH.cons rfl (fun K hK => ?_) ?_
          rotate_left
          · exact AllReadyH.nil
          go_simp
          refine hK.out _ _ ?_ (fun hHeld => ?_)
          · trivial
          clear hK K
          try simp only [Act.put, List.setIfInBounds_toArray, List.set_cons_zero, List.set_cons_succ]
          refine wpAnyH_done (by kernel_rfl) ?_ _
          rw [HY.out]
          go_wp2_with fail
          go_meet
          exact ⟨rfl, rfl⟩
      case rest =>
        obtain ⟨rfl, rfl⟩ := hcut
        have e8 : w7.drew.heap.size = w7.heap.size := rfl
        have m7 := hb7.size
        have hZ9 : OwnB (w7.drew.setCell ⟨gx, k, none⟩ (.int .u8 (y.toNat : Int))) w6.heap.size (.slice (some ⟨gx, 0, none⟩) (L.set k y).length cx) (L.set k y) := by
          unfold OwnB
          rw [List.length_set]
          exact hZ8
        have s8 := Slot5f.grown (w := w7.drew) s7 hgZ8 (by omega)
        have y8 := Slot5f.grown (w := w7.drew) y7 hgZ8 (by omega)
        have hv8 : OwnB (w7.drew.setCell ⟨gx, k, none⟩ (.int .u8 (y.toNat : Int))) w.heap.size (.slice ad data.length cp) data := World.ownsRow.kept (w := w7.drew) hv7 hgZ8 (.inr (fun e => by have := (qv gx e).2; omega))
        have hX8 : OwnB (w7.drew.setCell ⟨gx, k, none⟩ (.int .u8 (y.toNat : Int))) w4.heap.size (.slice (some ⟨g5, 0, none⟩) data.length c5) data := World.ownsRow.kept (w := w7.drew) hX7 hgZ8 (.inr (by simp [Value.ownBlock]; omega))
        have B8 : Below w.heap.size w (w7.drew.setCell ⟨gx, k, none⟩ (.int .u8 (y.toNat : Int))) := belowGrown (w1 := w7.drew) B7.drew hgZ8 (by have := B6s; omega) (by have := B7.size; omega)
        have hT := getF_turned hB0 k y hkL hyne
        have hMl : (L.set k y).length = L.length := List.length_set
        clear hcx hfx ho7 HY hyne hB0 hgZ8 hZ8 s7 y7 hv7 hX7 cA2 cA3 hrw hk hk2
        generalize w7.drew.setCell ⟨gx, k, none⟩ (.int .u8 (y.toNat : Int)) = w8 at s8 y8 hv8 hX8 B8 hZ9 ⊢
        have cG9 := cG gx cx (L.set k y) w8 (by omega) hgx4 (by omega) (RdA.own hZ9)
        rw [hT, hMl] at cG9
        clear hZ9 cG
        go_wp2_with fail
        refine cG9.mono ?_
        rintro e w9 ⟨rfl, hb9⟩
        have b10 := bel1 w9 (.cells #[.int .i64 0, .int .i64 0, .int .i64 0, .bool false, .slice none 0 0] 27)
        have s10 := (s8.below hb9).below b10
        have y10 := (y8.below hb9).below b10
        have B10 := behind (behind B8 hb9) b10
        have hv10 := RdA.below (RdA.below hv8.rdv hb9) b10
        have hX10 := RdA.below (RdA.below (RdA.own hX8) hb9) b10
        go_upto_region 11 with fail
        generalize w9.alloc (.cells #[.int .i64 0, .int .i64 0, .int .i64 0, .bool false, .slice none 0 0] 27) = W at b10 s10 y10 B10 hv10 hX10 ⊢
        have cSm := fun (wx : World) (h : Below W.drew.heap.size W.drew wx) => sameFl t q n D (some ⟨g5, 0, none⟩) ad c5 cp data wx (by omega) (RdA.below (w := W.drew) hX10 h) (RdA.below (w := W.drew) hv10 h)
        have cS1 := fun (wx : World) (h : Below W.drew.heap.size W.drew wx) => implSumOf t q n D (some ⟨g5, 0, none⟩) c5 data wx (by omega) (RdA.below (w := W.drew) hX10 h)
        have cS2 := fun (wx : World) (h : Below W.drew.heap.size W.drew wx) => implSumOf t q n D ad cp data wx (by omega) (RdA.below (w := W.drew) hv10 h)
        generalize Mt.crcN data = X at cS1 cS2
        obtain ⟨d5, -⟩ := id s10
        obtain ⟨e5, -⟩ := id y10
        have hS := And.intro d5 e5
        clear d5 e5
        refine wp_region_held_drew (S := fun wy => (wy.cell? ⟨w1.heap.size, 0, none⟩ = some (.int .i64 t) ∧ wy.cell? ⟨w1.heap.size, 1, none⟩ = some (.int .i64 q) ∧ wy.cell? ⟨w1.heap.size, 2, none⟩ = some (.int .i64 n) ∧ wy.cell? ⟨w1.heap.size, 3, none⟩ = some (.bool D) ∧ wy.cell? ⟨w1.heap.size, 4, none⟩ = some (.slice ad data.length cp)) ∧ (wy.cell? ⟨w5.heap.size, 0, none⟩ = some (.int .i64 t) ∧ wy.cell? ⟨w5.heap.size, 1, none⟩ = some (.int .i64 q) ∧ wy.cell? ⟨w5.heap.size, 2, none⟩ = some (.int .i64 n) ∧ wy.cell? ⟨w5.heap.size, 3, none⟩ = some (.bool D) ∧ wy.cell? ⟨w5.heap.size, 4, none⟩ = some (.slice (some ⟨g5, 0, none⟩) data.length c5))) (by kernel_rfl) hS (fun hHeld => ?_)
        refine wpAnyH_take (i := 0) (oi := ?_) (v := ?_) ?_ ?_ ?_ ?_ ?_ ?_ (by assumption) ?_
        rotate_left 2
        · simp only [List.getElem?_toArray, List.getElem?_cons_zero]
          rfl
        · kernel_rfl
        · kernel_rfl
        · kernel_rfl
        · exact fun _ _ _ h => h
        · refine Or.inl ⟨by kernel_rfl, ?_⟩
          intro wS hSw
          try dsimp only at hSw
          go_simp
          try with_reducible rfl
        simp only [Act.put, List.setIfInBounds_toArray, List.set_cons_zero, List.set_cons_succ]
        refine wpAnyH_take (i := 1) (oi := ?_) (v := ?_) ?_ ?_ ?_ ?_ ?_ ?_ (by assumption) ?_
        rotate_left 2
        · simp only [List.getElem?_toArray, List.getElem?_cons_succ, List.getElem?_cons_zero]
          rfl
        · kernel_rfl
        · kernel_rfl
        · kernel_rfl
        · exact fun _ _ _ h => h
        · refine Or.inl ⟨by kernel_rfl, ?_⟩
          intro wS hSw
          try dsimp only at hSw
          go_simp
          try with_reducible rfl
        simp only [Act.put, List.setIfInBounds_toArray, List.set_cons_zero, List.set_cons_succ]
        refine wpAnyH_take (i := 2) (oi := ?_) (v := ?_) ?_ ?_ ?_ ?_ ?_ ?_ (by assumption) ?_
        rotate_left 2
        · simp only [List.getElem?_toArray, List.getElem?_cons_succ, List.getElem?_cons_zero]
          rfl
        · kernel_rfl
        · kernel_rfl
        · kernel_rfl
        · exact fun _ _ _ h => h
        · refine Or.inl ⟨by kernel_rfl, ?_⟩
          intro wS hSw
          try dsimp only at hSw
          go_simp
          try with_reducible rfl
        simp only [Act.put, List.setIfInBounds_toArray, List.set_cons_zero, List.set_cons_succ]
        refine wpAnyH_take (i := 3) (oi := ?_) (v := ?_) ?_ ?_ ?_ ?_ ?_ ?_ (by assumption) ?_
        rotate_left 2
        · simp only [List.getElem?_toArray, List.getElem?_cons_succ, List.getElem?_cons_zero]
          rfl
        · kernel_rfl
        · kernel_rfl
        · kernel_rfl
        · exact fun _ _ _ h => h
        · refine Or.inl ⟨by kernel_rfl, ?_⟩
          intro wS hSw
          try dsimp only at hSw
          go_simp
          try with_reducible rfl
        simp only [Act.put, List.setIfInBounds_toArray, List.set_cons_zero, List.set_cons_succ]
        refine wpAnyH_ready (rs := [4]) (by kernel_rfl) (by simp) ?_
        refine AllReadyH.cons rfl (fun K hK => ?_) ?_
        rotate_left
        · exact AllReadyH.nil
        go_simp
        refine (cSm _ (Below.refl _ _)).mono ?_
        rintro e v1 ⟨rfl, hd1⟩
        go_wp2_with fail
        refine hK.out _ _ ?_ (fun hHeld => ?_)
        · exact keepFF hHeld hd1
        clear hK K
        try simp only [Act.put, List.setIfInBounds_toArray, List.set_cons_zero, List.set_cons_succ]
        refine wpAnyH_take (i := 5) (oi := ?_) (v := ?_) ?_ ?_ ?_ ?_ ?_ ?_ (by assumption) ?_
        rotate_left 2
        · simp only [List.getElem?_toArray, List.getElem?_cons_succ, List.getElem?_cons_zero]
          rfl
        · kernel_rfl
        · kernel_rfl
        · kernel_rfl
        · exact fun _ _ _ h => h
        · refine Or.inl ⟨by kernel_rfl, ?_⟩
          intro wS hSw
          try dsimp only at hSw
          go_simp
          try with_reducible rfl
        simp only [Act.put, List.setIfInBounds_toArray, List.set_cons_zero, List.set_cons_succ]
        refine wpAnyH_take (i := 6) (oi := ?_) (v := ?_) ?_ ?_ ?_ ?_ ?_ ?_ (by assumption) ?_
        rotate_left 2
        · simp only [List.getElem?_toArray, List.getElem?_cons_succ, List.getElem?_cons_zero]
          rfl
        · kernel_rfl
        · kernel_rfl
        · kernel_rfl
        · exact fun _ _ _ h => h
        · refine Or.inl ⟨by kernel_rfl, ?_⟩
          intro wS hSw
          try dsimp only at hSw
          go_simp
          try with_reducible rfl
        simp only [Act.put, List.setIfInBounds_toArray, List.set_cons_zero, List.set_cons_succ]
        refine wpAnyH_take (i := 7) (oi := ?_) (v := ?_) ?_ ?_ ?_ ?_ ?_ ?_ (by assumption) ?_
        rotate_left 2
        · simp only [List.getElem?_toArray, List.getElem?_cons_succ, List.getElem?_cons_zero]
          rfl
        · kernel_rfl
        · kernel_rfl
        · kernel_rfl
        · exact fun _ _ _ h => h
        · refine Or.inl ⟨by kernel_rfl, ?_⟩
          intro wS hSw
          try dsimp only at hSw
          go_simp
          try with_reducible rfl
        simp only [Act.put, List.setIfInBounds_toArray, List.set_cons_zero, List.set_cons_succ]
        refine wpAnyH_take (i := 8) (oi := ?_) (v := ?_) ?_ ?_ ?_ ?_ ?_ ?_ (by assumption) ?_
        rotate_left 2
        · simp only [List.getElem?_toArray, List.getElem?_cons_succ, List.getElem?_cons_zero]
          rfl
        · kernel_rfl
        · kernel_rfl
        · kernel_rfl
        · exact fun _ _ _ h => h
        · refine Or.inl ⟨by kernel_rfl, ?_⟩
          intro wS hSw
          try dsimp only at hSw
          go_simp
          try with_reducible rfl
        simp only [Act.put, List.setIfInBounds_toArray, List.set_cons_zero, List.set_cons_succ]
        refine wpAnyH_take (i := 9) (oi := ?_) (v := ?_) ?_ ?_ ?_ ?_ ?_ ?_ (by assumption) ?_
        rotate_left 2
        · simp only [List.getElem?_toArray, List.getElem?_cons_succ, List.getElem?_cons_zero]
          rfl
        · kernel_rfl
        · kernel_rfl
        · kernel_rfl
        · exact fun _ _ _ h => h
        · refine Or.inl ⟨by kernel_rfl, ?_⟩
          intro wS hSw
          try dsimp only at hSw
          go_simp
          try with_reducible rfl
        simp only [Act.put, List.setIfInBounds_toArray, List.set_cons_zero, List.set_cons_succ]
        refine wpAnyH_take (i := 10) (oi := ?_) (v := ?_) ?_ ?_ ?_ ?_ ?_ ?_ (by assumption) ?_
        rotate_left 2
        · simp only [List.getElem?_toArray, List.getElem?_cons_succ, List.getElem?_cons_zero]
          rfl
        · kernel_rfl
        · kernel_rfl
        · kernel_rfl
        · exact fun _ _ _ h => h
        · refine Or.inl ⟨by kernel_rfl, ?_⟩
          intro wS hSw
          try dsimp only at hSw
          go_simp
          try with_reducible rfl
        simp only [Act.put, List.setIfInBounds_toArray, List.set_cons_zero, List.set_cons_succ]
        refine wpAnyH_take (i := 11) (oi := ?_) (v := ?_) ?_ ?_ ?_ ?_ ?_ ?_ (by assumption) ?_
        rotate_left 2
        · simp only [List.getElem?_toArray, List.getElem?_cons_succ, List.getElem?_cons_zero]
          rfl
        · kernel_rfl
        · kernel_rfl
        · kernel_rfl
        · exact fun _ _ _ h => h
        · refine Or.inl ⟨by kernel_rfl, ?_⟩
          intro wS hSw
          try dsimp only at hSw
          go_simp
          try with_reducible rfl
        simp only [Act.put, List.setIfInBounds_toArray, List.set_cons_zero, List.set_cons_succ]
        refine wpAnyH_take (i := 13) (oi := ?_) (v := ?_) ?_ ?_ ?_ ?_ ?_ ?_ (by assumption) ?_
        rotate_left 2
        · simp only [List.getElem?_toArray, List.getElem?_cons_succ, List.getElem?_cons_zero]
          rfl
        · kernel_rfl
        · kernel_rfl
        · kernel_rfl
        · exact fun _ _ _ h => h
        · refine Or.inl ⟨by kernel_rfl, ?_⟩
          intro wS hSw
          try dsimp only at hSw
          go_simp
          try with_reducible rfl
        simp only [Act.put, List.setIfInBounds_toArray, List.set_cons_zero, List.set_cons_succ]
        refine wpAnyH_ready (rs := [12]) (by kernel_rfl) (by simp) ?_
        refine AllReadyH.cons rfl (fun K hK => ?_) ?_
        rotate_left
        · exact AllReadyH.nil
        go_simp
        refine (cS1 _ hd1).mono ?_
        rintro e v2 ⟨rfl, hd2⟩
        go_wp2_with fail
        refine hK.out _ _ ?_ (fun hHeld => ?_)
        · exact keepFF hHeld hd2
        clear hK K
        try simp only [Act.put, List.setIfInBounds_toArray, List.set_cons_zero, List.set_cons_succ]
        refine wpAnyH_ready (rs := [14]) (by kernel_rfl) (by simp) ?_
        refine AllReadyH.cons rfl (fun K hK => ?_) ?_
        rotate_left
        · exact AllReadyH.nil
        go_simp
        refine (cS2 _ (behind hd1 hd2)).mono ?_
        rintro e v3 ⟨rfl, hd3⟩
        go_wp2_with fail
        refine hK.out _ _ ?_ (fun hHeld => ?_)
        · exact keepFF hHeld hd3
        clear hK K
        try simp only [Act.put, List.setIfInBounds_toArray, List.set_cons_zero, List.set_cons_succ]
        refine wpAnyH_take (i := 15) (oi := ?_) (v := ?_) ?_ ?_ ?_ ?_ ?_ ?_ (by assumption) ?_
        rotate_left 2
        · simp only [List.getElem?_toArray, List.getElem?_cons_succ, List.getElem?_cons_zero]
          rfl
        · kernel_rfl
        · kernel_rfl
        · kernel_rfl
        · exact fun _ _ _ h => h
        · refine Or.inl ⟨by kernel_rfl, ?_⟩
          intro wS hSw
          try dsimp only at hSw
          go_simp
          try with_reducible rfl
        simp only [Act.put, List.setIfInBounds_toArray, List.set_cons_zero, List.set_cons_succ]
        refine wpAnyH_take (i := 16) (oi := ?_) (v := ?_) ?_ ?_ ?_ ?_ ?_ ?_ (by assumption) ?_
        rotate_left 2
        · simp only [List.getElem?_toArray, List.getElem?_cons_succ, List.getElem?_cons_zero]
          rfl
        · kernel_rfl
        · kernel_rfl
        · kernel_rfl
        · exact fun _ _ _ h => h
        · refine Or.inl ⟨by kernel_rfl, ?_⟩
          intro wS hSw
          try dsimp only at hSw
          go_simp
          try with_reducible rfl
        simp only [Act.put, List.setIfInBounds_toArray, List.set_cons_zero, List.set_cons_succ]
        refine wpAnyH_take (i := 17) (oi := ?_) (v := ?_) ?_ ?_ ?_ ?_ ?_ ?_ (by assumption) ?_
        rotate_left 2
        · simp only [List.getElem?_toArray, List.getElem?_cons_succ, List.getElem?_cons_zero]
          rfl
        · kernel_rfl
        · kernel_rfl
        · kernel_rfl
        · exact fun _ _ _ h => h
        · refine Or.inl ⟨by kernel_rfl, ?_⟩
          intro wS hSw
          try dsimp only at hSw
          go_simp
          try with_reducible rfl
        simp only [Act.put, List.setIfInBounds_toArray, List.set_cons_zero, List.set_cons_succ]
        refine wpAnyH_take (i := 18) (oi := ?_) (v := ?_) ?_ ?_ ?_ ?_ ?_ ?_ (by assumption) ?_
        rotate_left 2
        · simp only [List.getElem?_toArray, List.getElem?_cons_succ, List.getElem?_cons_zero]
          rfl
        · kernel_rfl
        · kernel_rfl
        · kernel_rfl
        · exact fun _ _ _ h => h
        · refine Or.inl ⟨by kernel_rfl, ?_⟩
          intro wS hSw
          try dsimp only at hSw
          go_simp
          try with_reducible rfl
        simp only [Act.put, List.setIfInBounds_toArray, List.set_cons_zero, List.set_cons_succ]
        refine wpAnyH_ready (rs := [19]) (by kernel_rfl) (by simp) ?_
        refine AllReadyH.cons rfl (fun K hK => ?_) ?_
        rotate_left
        · exact AllReadyH.nil
        go_simp
        refine (cFi _).mono ?_
        rintro e v4 ⟨rfl, hd4⟩
        go_wp2_with fail
        refine hK.out _ _ ?_ (fun hHeld => ?_)
        · exact keepFF hHeld hd4
        clear hK K
        try simp only [Act.put, List.setIfInBounds_toArray, List.set_cons_zero, List.set_cons_succ]
        refine wpAnyH_take (i := 20) (oi := ?_) (v := ?_) ?_ ?_ ?_ ?_ ?_ ?_ (by assumption) ?_
        rotate_left 2
        · simp only [List.getElem?_toArray, List.getElem?_cons_succ, List.getElem?_cons_zero]
          rfl
        · kernel_rfl
        · kernel_rfl
        · kernel_rfl
        · exact fun _ _ _ h => h
        · refine Or.inl ⟨by kernel_rfl, ?_⟩
          intro wS hSw
          try dsimp only at hSw
          go_simp
          try with_reducible rfl
        simp only [Act.put, List.setIfInBounds_toArray, List.set_cons_zero, List.set_cons_succ]
        refine wpAnyH_take (i := 21) (oi := ?_) (v := ?_) ?_ ?_ ?_ ?_ ?_ ?_ (by assumption) ?_
        rotate_left 2
        · simp only [List.getElem?_toArray, List.getElem?_cons_succ, List.getElem?_cons_zero]
          rfl
        · kernel_rfl
        · kernel_rfl
        · kernel_rfl
        · exact fun _ _ _ h => h
        · refine Or.inl ⟨by kernel_rfl, ?_⟩
          intro wS hSw
          try dsimp only at hSw
          go_simp
          try with_reducible rfl
        simp only [Act.put, List.setIfInBounds_toArray, List.set_cons_zero, List.set_cons_succ]
        refine wpAnyH_done (by kernel_rfl) ?_ _
        have B11 := behind (behind (behind (behind B10.drew hd1) hd2) hd3) hd4
        go_wp2
        go_ret
        exact ⟨rfl, B11⟩
  · have hsI : (l.length : Int) > 1048576 := by omega
    go_enter Try.func3, Try.ntmps3
    go_wp2_with (go_at_call 5; go_in)
    go_wp2
    go_ret
    exact ⟨rfl, Below.refl _ _⟩

set_option maxRecDepth 100000 in
theorem lifted (os : Os) (started : os.Started) (H : Type) (enc : TypeId × Value → H) :
    ReturnsInHanded {} Try.checked os 3 .any (Rows.fnFilesSpec.pre6 enc Try.prog Try.f3 Rows.fnFilesRow.domain false) (Rows.fnFilesSpec.post enc Try.prog Try.f3 false true false false) := by
  refine returnsInHanded_of_change (C := Try.checked) own started (by kernel_rfl) Try.func3
    (ChangeSpec.witness6 (enc := enc) (C := Try.checked) false ⟨#[], #[.slice none 0 0], []⟩ 8 (by kernel_rfl) (by kernel_rfl) (by kernel_rfl) (by kernel_rfl)) ?_
  intro W base args ds gs before hval0 hW hcnd _
  have hval : ∀ (j : Nat) t v, Try.f3.params[j]? = some t → args[j]? = some v → Value.okWide Try.prog W .any base t v := hval0
  have hW' := hW
  obtain ⟨p, q, hA0, hV, rfl, hfz, hnd⟩ := hW
  have hA : DataW.TrodAll enc Try.prog W 0 (fun _ => true) true Try.f3.params.toList args.toList ds p := hA0
  rw [Try.params3] at hA hval
  obtain ⟨v0, vs0, d0, ds0, p0, q0, hargs, rfl, rfl, h0, r0⟩ := trodAll_cons hA
  obtain ⟨rfl, rfl, rfl⟩ := trodAll_nil r0
  obtain rfl : args = #[v0] := by cases args; simp_all
  obtain ⟨rfl, rfl⟩ := trodVars_none hV
  obtain ⟨a0, len0, cap0, rfl⟩ := okWide_slice Try.underlying22 (hval 0 22 v0 rfl rfl)
  have k0 := h0
  have lt0 : ∀ x ∈ p0, x.block < W.heap.size := by obtain ⟨m, hm⟩ := k0; exact DataW.trod_lt m _ _ _ hm
  obtain ⟨z0, w0⟩ : ∃ zs, IsRow .u8 W a0 len0 cap0 zs := by
    obtain ⟨fuel, hf⟩ := h0
    rcases open_ints Try.underlying22 Try.underlying5 (by kernel_rfl) hf with ⟨hcs, _⟩ | ⟨x, l, c, zs, hcs, _, hl, hm, hz, _, hcell, hwz⟩
    · simp [Value.cells] at hcs
      obtain ⟨rfl, rfl, rfl⟩ := hcs
      exact ⟨[], .inl ⟨rfl, rfl, rfl, rfl⟩⟩
    · simp [Value.cells] at hcs
      obtain ⟨rfl, rfl, rfl⟩ := hcs
      exact ⟨zs, .inr ⟨_, rfl, hl, hm, by simpa using hz, hcell, hwz⟩⟩
  clear hA0 hval0
  refine (walk a0 len0 cap0 z0 W w0).mono fun e W' ⟨he, bel⟩ => ?_
  subst he
  exact ⟨_, rfl, _, _, _, [], _, [], hW', trodAll_mk1 (shut_bool Try.underlying4 _), (trodAll_cons_mk (Below.trod laidOut (by kernel_rfl) (of_decide_eq_true (by kernel_rfl)) k0 bel lt0) trodAll_mk0), rfl, bel.frame _, fun h => by cases h⟩

theorem over : Rows.fnFilesRow.holds Try.pinned (OpenSpec.ofChange Rows.fnFilesSpec) :=
  OpenClaim.holds_of_wide 3 Try.f3 rfl rfl rfl rfl rfl rfl rfl ⟨rfl, rfl, rfl, rfl, rfl⟩ rfl rfl rfl rfl rfl (by kernel_rfl) Try.func3 (by kernel_rfl)
    (of_decide_eq_true (by kernel_rfl)) (by unfold Func.isWrapper; first | (rw [if_pos (by decide +kernel)]; kernel_rfl) | (rw [if_neg (by decide +kernel)]; exact ⟨rfl, rfl⟩))
    (fun os started H enc _ => lifted os started H enc)

end Go.Proofs.Ytpejeoekpejblad.fnFiles
namespace Go.Proofs.Ytpejeoekpejblad
theorem fnFiles_holds : Rows.FnFilesSaid := fnFiles.over
#print axioms fnFiles_holds
end Go.Proofs.Ytpejeoekpejblad
