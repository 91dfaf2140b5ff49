/- What DrawNewer and DrawGetFile come to: two files; few bytes. -/
import Derived.Test.YtpejeoekpejbladDrFa
import Derived.Test.YtpejeoekpejbladFpS
import Derived.Test.YtpejeoekpejbladSumM
import Derived.BigRegion
namespace Go.Proofs.Ytpejeoekpejblad.Wk
set_option linter.unusedVariables false
open Go.ChangeShapes Go.WideShapes Go.ChangeAt Go.RowKit

theorem set5B {w w1 : World} {B b : Nat} (h : Below B w w1) (hb : B ≤ b) (v0 v1 v2 v3 v4 : Value) :
    Below B w (((((w1.setCell ⟨b, 0, none⟩ v0).setCell ⟨b, 1, none⟩ v1).setCell ⟨b, 2, none⟩ v2).setCell ⟨b, 3, none⟩ v3).setCell ⟨b, 4, none⟩ v4) :=
  ((((h.setCell hb _).setCell hb _).setCell hb _).setCell hb _).setCell hb _
theorem Slot5f.set5o {w : World} {b c : Nat} {v0 v1 v2 v3 v4 : Value} (h : Slot5f w b v0 v1 v2 v3 v4) (hne : b ≠ c) (u0 u1 u2 u3 u4 : Value) :
    Slot5f (((((w.setCell ⟨c, 0, none⟩ u0).setCell ⟨c, 1, none⟩ u1).setCell ⟨c, 2, none⟩ u2).setCell ⟨c, 3, none⟩ u3).setCell ⟨c, 4, none⟩ u4) b v0 v1 v2 v3 v4 :=
  ((((h.other hne).other hne).other hne).other hne).other hne

set_option maxHeartbeats 8000000 in
set_option maxRecDepth 100000 in
theorem drawNewer (a : Option Addr) (cap : Nat) (l : List UInt8) (w : World) (hl : l.length ≤ 1048576) (hr : RdA w a l) :
    Calls Try.prog 16 #[.slice a l.length cap] w fun e w' => ∃ (t q n : Int) (d : Bool) (va : Option Addr) (vk vc : Nat) (t' q' n' : Int) (d' : Bool) (va' : Option Addr) (vk' vc' : Nat), e = .returned (.tuple #[.agg #[.int .i64 t, .int .i64 q, .int .i64 n, .bool d, .slice va vk vc], .agg #[.int .i64 t', .int .i64 q', .int .i64 n', .bool d', .slice va' vk' vc']]) ∧ Below w.heap.size w w' := by
  have b0 := bel1 w (.cells #[.int .i64 0, .int .i64 0, .int .i64 0, .bool false, .slice none 0 0] 27)
  have e0 : (w.alloc (.cells #[.int .i64 0, .int .i64 0, .int .i64 0, .bool false, .slice none 0 0] 27)).heap.size = w.heap.size + 1 := by simp
  have rA := (slot5fNew w (.int .i64 0) (.int .i64 0) (.int .i64 0) (.bool false) (.slice none 0 0) 27).below (bel1 _ (.cells #[.int .i64 0, .int .i64 0, .int .i64 0, .bool false, .slice none 0 0] 27))
  have rB := slot5fNew (w.alloc (.cells #[.int .i64 0, .int .i64 0, .int .i64 0, .bool false, .slice none 0 0] 27)) (.int .i64 0) (.int .i64 0) (.int .i64 0) (.bool false) (.slice none 0 0) 27
  have b1 := behind b0 (bel1 _ (.cells #[.int .i64 0, .int .i64 0, .int .i64 0, .bool false, .slice none 0 0] 27))
  have e1 : ((w.alloc (.cells #[.int .i64 0, .int .i64 0, .int .i64 0, .bool false, .slice none 0 0] 27)).alloc (.cells #[.int .i64 0, .int .i64 0, .int .i64 0, .bool false, .slice none 0 0] 27)).heap.size = w.heap.size + 1 + 1 := by simp
  rw [e0] at rB
  go_enter Try.func16, Try.ntmps16
  go_wp2_with fail
  refine (l1New a cap l _ hl (hr.below b1)).mono ?_
  rw [e1]
  rintro e w1 ⟨rfl, hc1, hb1⟩
  have B1 := behind b1 (by rw [e1]; exact hb1)
  have rA1 := rA.below (by rw [e1]; exact hb1)
  have rB1 := rB.below (by rw [e1]; exact hb1)
  have hcl := hc1.lt
  clear rA rB b0 b1 e0 e1 hb1
  go_wp2_with fail
  refine (l8Draw (w.heap.size + 1 + 1) l _ hc1).mono ?_
  rintro e w2 ⟨t, q, n, D, v, data, rfl, -, hv, hc2, hg2⟩
  have B2 := belowOf B1 hg2 (by omega)
  have rA2 := rA1.grown hg2 (by omega)
  have rB2 := rB1.grown hg2 (by omega)
  have hcl2 := hc2.lt
  obtain ⟨ad, cp, rfl, -, -⟩ := hv.form
  have b3 := bel1 w2 (.cells #[.int .i64 t, .int .i64 q, .int .i64 n, .bool D, .slice ad data.length cp] 27)
  have f3 := slot5fNew w2 (.int .i64 t) (.int .i64 q) (.int .i64 n) (.bool D) (.slice ad data.length cp) 27
  have hc3 := hc2.below b3
  have B3 := behind B2 b3
  have rA3 := rA2.below b3
  have rB3 := rB2.below b3
  clear hc1 hc2 rA1 rB1 rA2 rB2 hv hg2 B1 B2
  go_upto_region 3 with fail
  generalize w2.alloc (.cells #[.int .i64 t, .int .i64 q, .int .i64 n, .bool D, .slice ad data.length cp] 27) = w3 at b3 f3 hc3 B3 rA3 rB3 ⊢
  go_wp2_with fail
  refine (l1Once (w.heap.size + 1 + 1) l 4 _ hc3 (by omega)).mono ?_
  rintro e w4 ⟨P, rfl, hc4, hg4⟩
  have B4 := belowOf B3 hg4 (by omega)
  have rA4 := rA3.grown hg4 (by omega)
  have rB4 := rB3.grown hg4 (by omega)
  have f4 := f3.grown hg4 (by omega)
  clear rA3 rB3 f3 hg4 B3 hc3 b3
  cases P with
  | true =>
    obtain ⟨⟨a0, a1, a2, a3, a4⟩, a5, a6, a7, a8, a9⟩ := id rA4
    obtain ⟨⟨p0, p1, p2, p3, p4⟩, p5, p6, p7, p8, p9⟩ := id rB4
    obtain ⟨⟨c0, c1, c2, c3, c4⟩, -⟩ := id f4
    go_wp2_with fail
    go_region
    all_goals
      go_wp2_with fail
      obtain ⟨z0, z1, z2, z3, z4⟩ := ((rA4.set (.int .i64 t) (.int .i64 q) (.int .i64 n) (.bool D) (.slice ad data.length cp)).set5o (c := w.heap.size + 1) (by omega) (.int .i64 t) (.int .i64 q) (.int .i64 n) (.bool D) (.slice ad data.length cp)).1
      obtain ⟨y0, y1, y2, y3, y4⟩ := ((rB4.set5o (c := w.heap.size) (by omega) (.int .i64 t) (.int .i64 q) (.int .i64 n) (.bool D) (.slice ad data.length cp)).set (.int .i64 t) (.int .i64 q) (.int .i64 n) (.bool D) (.slice ad data.length cp)).1
      exact bodyPost_ret (v := .tuple #[.agg #[.int .i64 t, .int .i64 q, .int .i64 n, .bool D, .slice ad data.length cp], .agg #[.int .i64 t, .int .i64 q, .int .i64 n, .bool D, .slice ad data.length cp]]) (by simp [results, Try.results16, go_sem, z0, z1, z2, z3, z4, y0, y1, y2, y3, y4]) rfl ⟨t, q, n, D, _, _, _, t, q, n, D, _, _, _, rfl, (set5B (set5B B4 (Nat.le_refl _) _ _ _ _ _) (by omega) _ _ _ _ _).drew⟩
  | false =>
    obtain ⟨⟨c0, c1, c2, c3, c4⟩, -⟩ := id f4
    have hcd : Cur w4.drew (w.heap.size + 1 + 1) l := hc4
    have cY := l8Any (w.heap.size + 1 + 1) l w4.drew hcd
    have hK := fun (w5 : World) (hg : w4.drew.grownBy w5 (some (w.heap.size + 1 + 1))) => And.intro (Slot5f.grown (w := w4.drew) f4 hg (by omega)) (And.intro (Slot5f.grown (w := w4.drew) rA4 hg (by omega)) (Slot5f.grown (w := w4.drew) rB4 hg (by omega)))
    go_wp2_with fail
    go_region_with (go_at_call 21; refine cY.mono ?_; rintro e w5 ⟨t', q', n', D', v', data', rfl, -, hv', -, hg5⟩; obtain ⟨a', cp', rfl, -, -⟩ := hv'.form; obtain ⟨⟨⟨c0, c1, c2, c3, c4⟩, -⟩, ⟨⟨a0, a1, a2, a3, a4⟩, a5, a6, a7, a8, a9⟩, ⟨⟨p0, p1, p2, p3, p4⟩, p5, p6, p7, p8, p9⟩⟩ := (show _ from hK w5 hg5))
    all_goals
      go_wp2_with fail
      obtain ⟨-, kA, kB⟩ := hK w5 hg5
      have B5 : Below w.heap.size w w5 := belowOf (w := w4.drew) B4.drew hg5 (by omega)
      obtain ⟨z0, z1, z2, z3, z4⟩ := ((kA.set (.int .i64 t) (.int .i64 q) (.int .i64 n) (.bool D) (.slice ad data.length cp)).set5o (c := w.heap.size + 1) (by omega) (.int .i64 t') (.int .i64 q') (.int .i64 n') (.bool D') (.slice a' data'.length cp')).1
      obtain ⟨y0, y1, y2, y3, y4⟩ := ((kB.set5o (c := w.heap.size) (by omega) (.int .i64 t) (.int .i64 q) (.int .i64 n) (.bool D) (.slice ad data.length cp)).set (.int .i64 t') (.int .i64 q') (.int .i64 n') (.bool D') (.slice a' data'.length cp')).1
      exact bodyPost_ret (v := .tuple #[.agg #[.int .i64 t, .int .i64 q, .int .i64 n, .bool D, .slice ad data.length cp], .agg #[.int .i64 t', .int .i64 q', .int .i64 n', .bool D', .slice a' data'.length cp']]) (by simp [results, Try.results16, go_sem, z0, z1, z2, z3, z4, y0, y1, y2, y3, y4]) rfl ⟨t, q, n, D, _, _, _, t', q', n', D', _, _, _, rfl, set5B (set5B B5 (Nat.le_refl _) _ _ _ _ _) (by omega) _ _ _ _ _⟩
theorem fileBytes_pos (t q n : Int) (d : Bool) (data : List UInt8) (h : fileB t q n d data.length = true) : 0 < (fileBytes t q n d data).length := by
  unfold fileBytes
  rw [if_pos h, List.length_append]
  have : (crc4 (Mt.crcN (fileBody t q n d data))).length = 4 := rfl
  omega
theorem shl_small (c : UInt8) (z : Int) (h0 : 0 ≤ z) (h1 : z < 8) : ∃ y : UInt8, bits .xor .u8 (c.toNat : Int) (IntKind.u8.wrap (2 ^ min (IntKind.u64.wrap z).toNat 8)) = (y.toNat : Int) := by
  obtain ⟨y, h, -⟩ := Mt.turned c z h0 (by omega)
  rw [Int.tmod_eq_emod_of_nonneg h0, Int.emod_eq_of_lt h0 h1] at h
  exact ⟨y, h⟩

set_option maxHeartbeats 8000000 in
set_option maxRecDepth 100000 in
theorem drawGetFl (a : Option Addr) (cap : Nat) (l : List UInt8) (w : World) (hl : l.length ≤ 1048576) (hr : RdA w a l) :
    Calls Try.prog 14 #[.slice a l.length cap] w fun e w' => ∃ (g c : Nat) (r : List UInt8), e = .returned (.slice (some ⟨g, 0, none⟩) r.length c) ∧ r.length ≤ 2000 ∧ r.length ≤ c ∧ c ≤ maxLen ∧ RdA w' (some ⟨g, 0, none⟩) r ∧ w.heap.size ≤ g ∧ g < w'.heap.size ∧ Below w.heap.size w w' := by
  obtain ⟨i0, hi, hz0, hz1, hz2⟩ := info_parts Try.info5
  go_enter Try.func14, Try.ntmps14
  go_wp2_with fail
  refine (l1New a cap l _ hl hr).mono ?_
  rintro e w1 ⟨rfl, hc1, hb1⟩
  go_wp2_with fail
  refine (l8Draw w.heap.size l _ hc1).mono ?_
  rintro e w2 ⟨t, q, n, D, v, data, rfl, hF, hv, hc2, hg2⟩
  have B2 := belowOf hb1 hg2 (Nat.le_refl _)
  have hL0 := fileBytes_pos t q n D data hF
  have hL1 := fileBytes_len t q n D data
  have hdl : data.length ≤ 1048576 := by
    unfold fileB at hF
    simp only [Bool.and_eq_true, decide_eq_true_eq] at hF
    have := hF.2.1
    omega
  obtain ⟨ad, cp, rfl, hrd, hnil⟩ := hv.form
  have cP := specPut t q n D ad cp data w2 hdl hrd hnil
  clear hF
  generalize fileBytes t q n D data = L at hL0 hL1 cP
  go_wp2_with fail
  refine cP.mono ?_
  rintro e w3 ⟨g, c, rfl, ho3, hb3⟩
  have B3 := behind B2 hb3
  have hc3 := hc2.below hb3
  have hlt3 := World.ownsRow.lt ho3 g rfl
  have hC2 := hc2.lt
  obtain ⟨g', c', e', hgg, -, hLc, hcm⟩ := ho3.shape hL0
  cases e'
  clear hv hrd cP hb3 hg2
  go_wp2_with fail
  refine (l1Below w.heap.size l 5 _ hc3 (by omega)).mono ?_
  rintro e w4 ⟨x, rfl, hx0, hx1, -, hc4, hg4⟩
  have hx2 := hx1 (by omega)
  have ho4 := OwnB.grow ho3 hg4 hC2
  have B4 := belowOf B3 hg4 (Nat.le_refl _)
  have hz4 := hg4.size
  clear hx1 ho3 B3 hc3 hg4
  by_cases h0 : x = 0
  · subst h0
    have hcd : Cur w4.drew w.heap.size l := hc4
    have cA := l1Below w.heap.size l (L.length : Int) w4.drew hcd (by omega)
    have hK := fun (wx : World) (hg : w4.drew.grownBy wx (some w.heap.size)) => OwnB.grow (w := w4.drew) ho4 hg hC2
    have hKB := fun (wx : World) (hc : Cur wx w.heap.size l) => l1Below w.heap.size l 8 wx hc (by omega)
    have hKC := fun (wx : World) (ho : OwnB wx w2.heap.size (.slice (some ⟨g, 0, none⟩) L.length c) L) (k : Nat) (hk : k < L.length) => And.intro (show wx.cell? ⟨g, k, none⟩ = some (.int .u8 (L[k].toNat : Int)) from by rw [World.ownsRow.cellAt ho k (by omega)]; exact By_get L k hk) (World.ownsRow.frozenAt ho k)
    have hKx := fun (x : Int) (k0 : 0 ≤ x) (k1 : 0 < (L.length : Int) → x < (L.length : Int)) => (show ∃ i : Nat, x = (i : Int) ∧ i < L.length from ⟨x.toNat, by have := k1 (by omega); omega, by have := k1 (by omega); omega⟩)
    go_upto_region 5 with fail
    go_region_with (first | (go_at_call 33; with_reducible refine cA.mono ?_; rintro e w5 ⟨x, rfl, k0, k1, -, hc5, hg5⟩; obtain ⟨i, rfl, hil⟩ := hKx x k0 k1; have ho5 := hK w5 hg5; have hcB := hKB w5 hc5; obtain ⟨hcx, hfx⟩ := hKC w5 ho5 i hil) | (go_at_call 33; with_reducible refine hcB.mono ?_; rintro e w6 ⟨z, rfl, z0, z1, -, hc6, hg6⟩; have ho6 := OwnB.grow ho5 hg6 hC2; obtain ⟨hcx6, hfx6⟩ := hKC w6 ho6 i hil))
    all_goals
      obtain ⟨y, hy⟩ := shl_small L[i] z z0 (z1 (by omega))
      rw [hy]
      have hst := World.ownsRow.stored ho6 i (.int .u8 (y.toNat : Int))
      rw [By_set] at hst
      obtain ⟨hX, hgX⟩ := hst
      have B5 : Below w.heap.size w w5 := belowOf (w := w4.drew) B4.drew hg5 (Nat.le_refl _)
      have B6 := belowOf B5 hg6 (Nat.le_refl _)
      have hz5 : w4.heap.size ≤ w5.heap.size := hg5.size
      have hz6 := hg6.size
      have B7 := belowGrown B6 hgX (by omega) B6.size
      have hsz : (L.set i y).length = L.length := List.length_set
      have hO : OwnB (w6.setCell ⟨g, i, none⟩ (.int .u8 (y.toNat : Int))) w2.heap.size (.slice (some ⟨g, 0, none⟩) (L.set i y).length c) (L.set i y) := by
        unfold OwnB
        rw [hsz]
        exact hX
      have hgS := hgX.size
      clear hcx hfx hcx6 hfx6
      go_wp2
      go_ret
      exact ⟨g, c, L.set i y, by rw [hsz]; rfl, by omega, by omega, hcm, RdA.own hO, by omega, by omega, B7⟩
  · by_cases hk1 : x = 1
    · subst hk1
      go_wp2_with fail
      refine (l1Below w.heap.size l (L.length : Int) _ hc4 (by omega)).mono ?_
      rintro e w5 ⟨x, rfl, k0, k1, -, hc5, hg5⟩
      have k2 := k1 (by omega)
      obtain ⟨i, rfl⟩ := Int.eq_ofNat_of_zero_le k0
      have ho5 := OwnB.grow ho4 hg5 hC2
      have B5 := belowOf B4 hg5 (Nat.le_refl _)
      have hz5 := hg5.size
      have hil : i ≤ L.length := by omega
      have hic : i ≤ c := by omega
      have hic2 : (i : Int) ≤ (c : Int) := by omega
      have htl : (L.take i).length = i := by rw [List.length_take]; omega
      have hrd := (RdA.own ho5).take i
      clear ho4 B4 hg5 hc4 k1
      go_wp2
      go_ret
      exact ⟨g, c, L.take i, by rw [htl]; rfl, by omega, by omega, hcm, hrd, by omega, by omega, B5⟩
    · by_cases hk2 : x = 2
      · subst hk2
        go_wp2_with (first | (at_builtin; refine wpList_append_own _ rfl (.tmp 37) (.tmp 38) 22 rfl w2.heap.size 5 i0 (.int .u8 0) 1 1 Try.underlying22 hi hz0 hz1 hz2 rfl (by decide) _ _ _ rfl (World.ownsRow.alloc ho4 _) ⟨_, 0, none⟩ 1 1 [.int .u8 0] rfl rfl one_at one_one (by unfold maxLen; omega) (by omega) (by simp; omega) ?_; intro v5 w5 hown5 hgrow5 hnil5) | fail)
        have B5 : Below w.heap.size w w5 := (behind B4 (bel1 w4 (.cells #[.int .u8 0] 5))).grown hgrow5 (by have := B4.size; simp; omega) (fun k e => by have := (World.ownsRow.lt ho4 k e).1; omega)
        have ho5 : OwnB w5 w2.heap.size v5 (L ++ [0]) := OwnB.snoc (c := 0) rfl hown5
        have hlen : (L ++ [(0 : UInt8)]).length = L.length + 1 := by simp
        obtain ⟨g5, c5, rfl, q1, q2, q3, q4⟩ := ho5.shape (by omega)
        go_wp2
        go_ret
        exact ⟨g5, c5, L ++ [0], rfl, by omega, q3, q4, RdA.own ho5, by omega, q2, B5⟩
      · go_wp2
        go_ret
        exact ⟨g, c, L, rfl, by omega, hLc, hcm, RdA.own ho4, by omega, by omega, B4⟩
end Go.Proofs.Ytpejeoekpejblad.Wk
