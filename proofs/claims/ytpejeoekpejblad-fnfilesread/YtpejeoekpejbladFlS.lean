/- What FileOk, l8Bool and l8Stamp of the specification come to. -/
import Derived.Test.YtpejeoekpejbladFlM
import Derived.Test.YtpejeoekpejbladOkS
import Derived.Test.YtpejeoekpejbladPutNumW
import Derived.Deep.RegionHeld3
import Derived.Deep.Onto
namespace Go.Proofs.Ytpejeoekpejblad.Wk
set_option linter.unusedVariables false
open Go.ChangeShapes Go.WideShapes Go.ChangeAt Go.RowKit

theorem cellF {w w' : World} {a : Addr} {v : Value} (h : w.cell? a = some v) (hb : Below w.heap.size w w') : w'.cell? a = some v := by rw [hb.cell (World.block_lt_of_cell? w _ h)]; exact h
theorem keepF3 {w w' : World} {a1 a2 a3 : Addr} {v1 v2 v3 : Value} (h : w.cell? a1 = some v1 ∧ w.cell? a2 = some v2 ∧ w.cell? a3 = some v3) (hb : Below w.heap.size w w') : w'.cell? a1 = some v1 ∧ w'.cell? a2 = some v2 ∧ w'.cell? a3 = some v3 := ⟨cellF h.1 hb, cellF h.2.1 hb, cellF h.2.2 hb⟩
theorem keepF5 {w w' : World} {a1 a2 a3 a4 a5 : Addr} {v1 v2 v3 v4 v5 : Value} (h : w.cell? a1 = some v1 ∧ w.cell? a2 = some v2 ∧ w.cell? a3 = some v3 ∧ w.cell? a4 = some v4 ∧ w.cell? a5 = some v5) (hb : Below w.heap.size w w') :
    w'.cell? a1 = some v1 ∧ w'.cell? a2 = some v2 ∧ w'.cell? a3 = some v3 ∧ w'.cell? a4 = some v4 ∧ w'.cell? a5 = some v5 := ⟨cellF h.1 hb, cellF h.2.1 hb, cellF h.2.2.1 hb, cellF h.2.2.2.1 hb, cellF h.2.2.2.2 hb⟩
/-- five cells of a block -/
def Slot5f (w : World) (b : Nat) (v0 v1 v2 v3 v4 : Value) : Prop := (w.cell? ⟨b, 0, none⟩ = some v0 ∧ w.cell? ⟨b, 1, none⟩ = some v1 ∧ w.cell? ⟨b, 2, none⟩ = some v2 ∧ w.cell? ⟨b, 3, none⟩ = some v3 ∧ w.cell? ⟨b, 4, none⟩ = some v4) ∧
  w.frozen? ⟨b, 0, none⟩ = false ∧ w.frozen? ⟨b, 1, none⟩ = false ∧ w.frozen? ⟨b, 2, none⟩ = false ∧ w.frozen? ⟨b, 3, none⟩ = false ∧ w.frozen? ⟨b, 4, none⟩ = false
theorem Slot5f.lt {w : World} {b : Nat} {v0 v1 v2 v3 v4 : Value} (h : Slot5f w b v0 v1 v2 v3 v4) : b < w.heap.size := World.block_lt_of_cell? w _ h.1.1
theorem Slot5f.below {w w' : World} {b : Nat} {v0 v1 v2 v3 v4 : Value} (h : Slot5f w b v0 v1 v2 v3 v4) (hb : Below w.heap.size w w') : Slot5f w' b v0 v1 v2 v3 v4 := by
  have hl := h.lt
  have f : ∀ o, w'.cell? ⟨b, o, none⟩ = w.cell? ⟨b, o, none⟩ := fun o => hb.cell (p := ⟨b, o, none⟩) hl
  have g : ∀ o, w'.frozen? ⟨b, o, none⟩ = w.frozen? ⟨b, o, none⟩ := fun o => hb.frozen (p := ⟨b, o, none⟩) hl
  unfold Slot5f
  simp only [f, g]
  exact h
theorem slot5fNew (w : World) (v0 v1 v2 v3 v4 : Value) (T : TypeId) : Slot5f (w.alloc (.cells #[v0, v1, v2, v3, v4] T)) w.heap.size v0 v1 v2 v3 v4 := by
  refine ⟨⟨?_, ?_, ?_, ?_, ?_⟩, ?_, ?_, ?_, ?_, ?_⟩
  all_goals first | (rw [World.cell?_alloc_at _ _ _ _ rfl]; rfl) | exact World.frozen?_alloc_at _ _ _ _ rfl

theorem eq0 (k : Nat) : ((k : Int) == 0) = decide (k = 0) := by
  cases k with
  | zero => rfl
  | succ m =>
    have h : ¬ (m : Int) + 1 = 0 := by omega
    simp [h]

set_option maxHeartbeats 2000000 in
set_option maxRecDepth 100000 in
theorem specFile (t q n : Int) (d : Bool) (a : Option Addr) (k cap : Nat) (w : World) (hk : k ≤ 1048576) :
    Calls Try.prog 8 #[.agg #[.int .i64 t, .int .i64 q, .int .i64 n, .bool d, .slice a k cap]] w fun e w' => e = .returned (.bool (fileB t q n d k)) ∧ Below w.heap.size w w' := by
  have HE : Hid (fileB t q n d k = (Sm.ok t q n && (decide (k ≤ 200) && (!d || decide (k = 0))))) := rfl
  generalize fileB t q n d k = G at HE ⊢
  have cO := fun w => specOk t q n w
  generalize Sm.ok t q n = K at HE cO
  have s0 := slot5fNew w (.int .i64 t) (.int .i64 q) (.int .i64 n) (.bool d) (.slice a k cap) 27
  have b0 := bel1 w (.cells #[.int .i64 t, .int .i64 q, .int .i64 n, .bool d, .slice a k cap] 27)
  obtain ⟨⟨c0, c1, c2, c3, c4⟩, -⟩ := id s0
  cases K with
  | false =>
    have hG : G = false := by rw [HE.out]; rfl
    subst hG
    clear HE
    go_enter Try.func8, Try.ntmps8
    go_wp2_with fail
    refine (cO _).mono ?_
    rintro e w2 ⟨rfl, hb2⟩
    go_wp2
    go_ret
    exact ⟨rfl, behind b0 hb2⟩
  | true =>
    by_cases h1 : k ≤ 200
    · have h1' : (k : Int) ≤ 200 := by omega
      cases d with
      | false =>
        have hG : G = true := by rw [HE.out]; simp [h1]
        subst hG
        clear HE
        go_enter Try.func8, Try.ntmps8
        go_wp2_with fail
        refine (cO _).mono ?_
        rintro e w2 ⟨rfl, hb2⟩
        obtain ⟨⟨d0, d1, d2, d3, d4⟩, -⟩ := s0.below hb2
        go_wp2
        go_ret
        exact ⟨rfl, behind b0 hb2⟩
      | true =>
        have hG : G = decide (k = 0) := by rw [HE.out]; simp [h1]
        subst hG
        clear HE
        go_enter Try.func8, Try.ntmps8
        go_wp2_with fail
        refine (cO _).mono ?_
        rintro e w2 ⟨rfl, hb2⟩
        obtain ⟨⟨d0, d1, d2, d3, d4⟩, -⟩ := s0.below hb2
        go_wp2
        go_ret
        exact ⟨ret_bool (eq0 k), behind b0 hb2⟩
    · have h1' : ¬ (k : Int) ≤ 200 := by omega
      have hG : G = false := by rw [HE.out]; simp [h1]
      subst hG
      clear HE
      go_enter Try.func8, Try.ntmps8
      go_wp2_with fail
      refine (cO _).mono ?_
      rintro e w2 ⟨rfl, hb2⟩
      obtain ⟨⟨d0, d1, d2, d3, d4⟩, -⟩ := s0.below hb2
      go_wp2
      go_ret
      exact ⟨rfl, behind b0 hb2⟩

theorem specBool8 (d : Bool) (w : World) : Calls Try.prog 46 #[.bool d] w fun e w' => e = .returned (.int .i64 (d01 d)) ∧ w' = w := by
  cases d
  · go_enter Try.func46, Try.ntmps46
    go_wp2
    go_ret
    exact ⟨rfl, rfl⟩
  · go_enter Try.func46, Try.ntmps46
    go_wp2
    go_ret
    exact ⟨rfl, rfl⟩

theorem putNext {w : World} {base : Nat} {v : Value} {l : List UInt8} (h : OwnB w base v l) (h0 : 0 < l.length) (hl : l.length ≤ 1048576) (n : Int) (l' : List UInt8) (he : Hid (l ++ Mt.enc (Mt.clamp n) = l')) : ∃ g p, v = .slice (some ⟨g, 0, none⟩) l.length p ∧
    Calls Try.prog 44 #[.slice (some ⟨g, 0, none⟩) l.length p, .int .i64 n] w fun e w' => ∃ v', e = .returned v' ∧ OwnB w' w.heap.size v' l' ∧ Below w.heap.size w w' := by
  obtain ⟨g, p, rfl, -⟩ := h.shape h0
  rw [← he.out]
  exact ⟨g, p, rfl, specPutNum g 0 p l n w hl (RdA.own h)⟩
/-- the bytes that a number is put behind, and it -/
def putN (l : List UInt8) (n : Int) : List UInt8 := l ++ Mt.enc (Mt.clamp n)

set_option maxHeartbeats 4000000 in
set_option maxRecDepth 100000 in
theorem specStamp8 (b off cap : Nat) (l : List UInt8) (t q n : Int) (w : World) (hl : l.length ≤ 1000000) (hr : RdA w (some ⟨b, off, none⟩) l) :
    Calls Try.prog 45 #[.slice (some ⟨b, off, none⟩) l.length cap, .agg #[.int .i64 t, .int .i64 q, .int .i64 n]] w fun e w' => ∃ (g c : Nat), e = .returned (.slice (some ⟨g, 0, none⟩) (l ++ stampBytes t q n).length c) ∧ OwnB w' w.heap.size (.slice (some ⟨g, 0, none⟩) (l ++ stampBytes t q n).length c) (l ++ stampBytes t q n) ∧ Below w.heap.size w w' := by
  have b0 := bel1 w (.cells #[.int .i64 t, .int .i64 q, .int .i64 n] 25)
  have hr0 := hr.below b0
  have s0 := boxNew w t q n 25
  obtain ⟨c0, c1, c2⟩ := id s0
  have h1 := Mt.enc_len (Mt.clamp t)
  have h2 := Mt.enc_len (Mt.clamp q)
  have h3 := Mt.enc_len (Mt.clamp n)
  obtain ⟨L1, hL1⟩ : ∃ L1, l ++ Mt.enc (Mt.clamp t) = L1 := ⟨_, rfl⟩
  obtain ⟨L2, hL2⟩ : ∃ L2, L1 ++ Mt.enc (Mt.clamp q) = L2 := ⟨_, rfl⟩
  obtain ⟨L3, hL3⟩ : ∃ L3, L2 ++ Mt.enc (Mt.clamp n) = L3 := ⟨_, rfl⟩
  have e3 : l ++ stampBytes t q n = L3 := by rw [← hL3, ← hL2, ← hL1]; unfold stampBytes; simp
  have n1 : L1.length = l.length + (Mt.enc (Mt.clamp t)).length := by rw [← hL1, List.length_append]
  have n2 : L2.length = L1.length + (Mt.enc (Mt.clamp q)).length := by rw [← hL2, List.length_append]
  have n3 : L3.length = L2.length + (Mt.enc (Mt.clamp n)).length := by rw [← hL3, List.length_append]
  have l1 : 0 < L1.length ∧ L1.length ≤ 1048576 := ⟨by omega, by omega⟩
  have l2 : 0 < L2.length ∧ L2.length ≤ 1048576 := ⟨by omega, by omega⟩
  have l3 : 0 < L3.length := by omega
  have HL2 : Hid (L1 ++ Mt.enc (Mt.clamp q) = L2) := hL2
  have HL3 : Hid (L2 ++ Mt.enc (Mt.clamp n) = L3) := hL3
  rw [e3]
  have cA := specPutNum b off cap l t (w.alloc (.cells #[.int .i64 t, .int .i64 q, .int .i64 n] 25)).drew (by omega) hr0
  rw [hL1] at cA
  clear hL1 hL2 hL3 n1 n2 n3 h1 h2 h3 e3
  go_enter Try.func45, Try.ntmps45
  go_wp2_with fail
  go_region_held3 (fun wy => wy.cell? ⟨w.heap.size, 0, none⟩ = some (.int .i64 t) ∧ wy.cell? ⟨w.heap.size, 1, none⟩ = some (.int .i64 q) ∧ wy.cell? ⟨w.heap.size, 2, none⟩ = some (.int .i64 n))
    (first | exact ⟨c0, c1, c2⟩ | exact keepF3 ‹_› ‹_› | go_keep)
    (first | (go_at_call 44; with_reducible refine cA.mono ?_; rintro e w2 ⟨v2, rfl, ho2, hb2⟩; obtain ⟨g2, p2, rfl, cB⟩ := putNext ho2 l1.1 l1.2 q L2 HL2) | (go_at_call 44; with_reducible refine cB.mono ?_; rintro e w3 ⟨v3, rfl, ho3, hb3⟩; obtain ⟨g3, p3, rfl, cC⟩ := putNext ho3 l2.1 l2.2 n L3 HL3) | (go_at_call 44; with_reducible refine cC.mono ?_; rintro e w4 ⟨v4, rfl, ho4, hb4⟩; obtain ⟨g4, p4, rfl, -⟩ := OwnB.shape ho4 l3) | fail)
  go_wp2
  go_ret
  exact ⟨g4, p4, rfl, World.ownsRow.mono ho4 (by have := hb2.size; have := hb3.size; simp at *; omega), behind (behind (behind b0.drew hb2) hb3) hb4⟩
end Go.Proofs.Ytpejeoekpejblad.Wk
