/- What PutFile of the specification comes to. -/
import Derived.Test.YtpejeoekpejbladFlS
import Derived.Test.YtpejeoekpejbladPutTextW
import Derived.Test.YtpejeoekpejbladCrcW
namespace Go.Proofs.Ytpejeoekpejblad.Wk
set_option linter.unusedVariables false
open Go.ChangeShapes Go.WideShapes Go.ChangeAt Go.RowKit

/-- bytes that are read as a text, wherever they are -/
theorem convBack (a : Option Addr) (cap : Nat) (data : List UInt8) (hc : a = none → cap = 0) (w : World) (hr : RdA w a data) :
    (convert 22 9 (.slice a data.length cap)).run Try.prog w = .ok (.string ⟨data.toArray⟩) w := by
  cases a with
  | none =>
    have hm : data = [] := by
      cases data with
      | nil => rfl
      | cons y r =>
        obtain ⟨_, _, e, _⟩ := hr 0 (by simp)
        cases e
    subst hm
    obtain rfl := hc rfl
    rw [List.length_nil, run_convert_bytes_string (P := Try.prog) w 22 9 5 none 0 0 Try.underlying22 Try.underlying5 Try.underlying9]
    simp only [Conv.bytesToString]
    rfl
  | some ad =>
    refine run_convert_bytes_back (P := Try.prog) w 22 9 5 ad cap data Try.underlying22 Try.underlying5 Try.underlying9 ?_
    intro j hj
    obtain ⟨b, off, e, h⟩ := hr j hj
    cases e
    rw [Go.WideShapes.add_plain, h]

theorem keepPut {w w' : World} {a1 a2 a3 a4 a5 : Addr} {v1 v2 v3 v4 v5 : Value} {a : Option Addr} {data : List UInt8} (h : (w.cell? a1 = some v1 ∧ w.cell? a2 = some v2 ∧ w.cell? a3 = some v3 ∧ w.cell? a4 = some v4 ∧ w.cell? a5 = some v5) ∧ RdA w a data) (hb : Below w.heap.size w w') :
    (w'.cell? a1 = some v1 ∧ w'.cell? a2 = some v2 ∧ w'.cell? a3 = some v3 ∧ w'.cell? a4 = some v4 ∧ w'.cell? a5 = some v5) ∧ RdA w' a data := ⟨keepF5 h.1 hb, h.2.below hb⟩

theorem textNext {w : World} {base : Nat} {v : Value} {l : List UInt8} (h : OwnB w base v l) (h0 : 0 < l.length) (hl : l.length ≤ 1048576) (s : ByteArray) (hs : s.size ≤ 1048576) (l' : List UInt8) (he : Hid (putT l s = l')) : ∃ g p, v = .slice (some ⟨g, 0, none⟩) l.length p ∧
    Calls Try.prog 43 #[.slice (some ⟨g, 0, none⟩) l.length p, .string s] w fun e w' => ∃ v', e = .returned v' ∧ OwnB w' w.heap.size v' l' ∧ Below w.heap.size w w' := by
  obtain ⟨g, p, rfl, -⟩ := h.shape h0
  rw [← he.out]
  exact ⟨g, p, rfl, specPutText g 0 p l s w hl hs (RdA.own h)⟩

theorem four_at {wr : World} {c1 c2 c3 c4 : Value} : ∀ j u, [c1, c2, c3, c4][j]? = some u → (wr.alloc (.cells #[c1, c2, c3, c4] 5)).cell? ((⟨wr.heap.size, 0, none⟩ : Addr).add j) = some u := by
  intro j u hj
  rw [Go.WideShapes.add_plain, World.cell?_alloc_at _ _ _ _ rfl, Nat.zero_add]
  simpa using hj
theorem four_one {k : IntKind} {x1 x2 x3 x4 : Int} : ∀ u ∈ [Value.int k x1, Value.int k x2, Value.int k x3, Value.int k x4], u.oneCell' = true := by
  intro u hu
  simp at hu
  rcases hu with rfl | rfl | rfl | rfl <;> rfl
theorem By_crc4 (X : Nat) : By (crc4 X) = [.int .u8 ((X : Int) / 16777216 % 256), .int .u8 ((X : Int) / 65536 % 256), .int .u8 ((X : Int) / 256 % 256), .int .u8 ((X : Int) % 256)] := by
  have h : ∀ n : Nat, ((n.toUInt8.toNat : Nat) : Int) = (n : Int) % 256 := fun n => by simp
  have e : By (crc4 X) = [.int .u8 ((X / 16777216).toUInt8.toNat : Int), .int .u8 ((X / 65536).toUInt8.toNat : Int), .int .u8 ((X / 256).toUInt8.toNat : Int), .int .u8 (X.toUInt8.toNat : Int)] := rfl
  rw [e, h, h, h, h]
  rfl
theorem OwnB.crc {w' : World} {base : Nat} {v : Value} {l : List UInt8} {X : Nat} (h : w'.ownsRow base 5 1 v (l.length + 4) (By l ++ [.int .u8 ((X : Int) / 16777216 % 256), .int .u8 ((X : Int) / 65536 % 256), .int .u8 ((X : Int) / 256 % 256), .int .u8 ((X : Int) % 256)])) : OwnB w' base v (l ++ crc4 X) := by
  unfold OwnB
  rw [By_append, List.length_append, By_crc4]
  exact h

set_option maxHeartbeats 4000000 in
set_option maxRecDepth 100000 in
theorem specPut (t q n : Int) (d : Bool) (a : Option Addr) (cap : Nat) (data : List UInt8) (w : World) (hk : data.length ≤ 1048576) (hr : RdA w a data) (hc : a = none → cap = 0) :
    Calls Try.prog 31 #[.agg #[.int .i64 t, .int .i64 q, .int .i64 n, .bool d, .slice a data.length cap]] w fun e w' => ∃ (g c : Nat), e = .returned (.slice (some ⟨g, 0, none⟩) (fileBytes t q n d data).length c) ∧
      OwnB w' w.heap.size (.slice (some ⟨g, 0, none⟩) (fileBytes t q n d data).length c) (fileBytes t q n d data) ∧ Below w.heap.size w w' := by
  have cF := fun w => specFile t q n d a data.length cap w hk
  have s0 := slot5fNew w (.int .i64 t) (.int .i64 q) (.int .i64 n) (.bool d) (.slice a data.length cap) 27
  have b0 := bel1 w (.cells #[.int .i64 t, .int .i64 q, .int .i64 n, .bool d, .slice a data.length cap] 27)
  obtain ⟨⟨c0, c1, c2, c3, c4⟩, -⟩ := id s0
  cases hB : fileB t q n d data.length with
  | false =>
    have e : fileBytes t q n d data = [] := by unfold fileBytes; rw [hB]; rfl
    rw [e]
    rw [hB] at cF
    go_enter Try.func31, Try.ntmps31
    go_wp2_with fail
    refine (cF _).mono ?_
    rintro e w2 ⟨rfl, hb2⟩
    have hB2 := behind b0 hb2
    go_wp2
    go_ret
    exact ⟨w2.heap.size, 0, rfl, World.ownsRow_made w2 #[] 0 hB2.size (Nat.zero_le _) rfl, behind hB2 (bel1 w2 _)⟩
  | true =>
    have hk2 : data.length ≤ 200 := by
      unfold fileB at hB
      simp only [Bool.and_eq_true, decide_eq_true_eq] at hB
      exact hB.2.1
    rw [hB] at cF
    obtain ⟨L1, hL1⟩ : ∃ L1, stampBytes t q n = L1 := ⟨_, rfl⟩
    obtain ⟨L2, hL2⟩ : ∃ L2, L1 ++ Mt.enc (Mt.clamp (d01 d)) = L2 := ⟨_, rfl⟩
    obtain ⟨L3, hL3⟩ : ∃ L3, putT L2 ⟨data.toArray⟩ = L3 := ⟨_, rfl⟩
    have e3 : fileBody t q n d data = L3 := by unfold fileBody; rw [hL1, hL2, hL3]
    have e4 : fileBytes t q n d data = L3 ++ crc4 (Mt.crcN L3) := by unfold fileBytes; rw [if_pos hB, e3]
    have h1 := Mt.enc_len (Mt.clamp t)
    have h2 := Mt.enc_len (Mt.clamp q)
    have h3 := Mt.enc_len (Mt.clamp n)
    have h4 := Mt.enc_len (Mt.clamp (d01 d))
    have h5 := Mt.enc_len (Mt.clamp ((⟨data.toArray⟩ : ByteArray).size : Int))
    have n1 : 0 < L1.length ∧ L1.length ≤ 15 := by rw [← hL1]; unfold stampBytes; simp only [List.length_append]; omega
    have n2 : 0 < L2.length ∧ L2.length ≤ 20 := by rw [← hL2]; simp only [List.length_append]; omega
    have n3 : 0 < L3.length ∧ L3.length ≤ 225 := by rw [← hL3]; unfold putT; have e5 : (⟨data.toArray⟩ : ByteArray).data.toList.length = data.length := rfl; simp only [List.length_append]; omega
    obtain ⟨X, hX⟩ : ∃ X, Mt.crcN L3 = X := ⟨_, rfl⟩
    rw [e4, hX]
    have HX : Hid (Mt.crcN L3 = X) := hX
    have HL2 : Hid (L1 ++ Mt.enc (Mt.clamp (d01 d)) = L2) := hL2
    have HL3 : Hid (putT L2 ⟨data.toArray⟩ = L3) := hL3
    have HL1 : Hid (stampBytes t q n = L1) := hL1
    have hsz : (⟨data.toArray⟩ : ByteArray).size ≤ 1048576 := by have e5 : (⟨data.toArray⟩ : ByteArray).size = data.length := rfl; omega
    clear hX hL1 hL2 hL3 e3 e4 h1 h2 h3 h4 h5 hB
    go_enter Try.func31, Try.ntmps31
    go_wp2_with fail
    refine (cF _).mono ?_
    rintro e w2 ⟨rfl, hb2⟩
    have hB2 := behind b0 hb2
    obtain ⟨⟨d0, d1, d2, d3, d4⟩, -⟩ := s0.below hb2
    have hr2 := hr.below hB2
    have hcv := convBack a cap data hc
    go_wp2_with fail
    have b2 := bel1 w2 (.cells #[] 5)
    have e2 : RdA (w2.alloc (.cells #[] 5)).drew (some ⟨w2.heap.size, 0, none⟩) [] := fun i hi => by simp at hi
    have cA := specStamp8 w2.heap.size 0 0 [] t q n (w2.alloc (.cells #[] 5)).drew (by simp) e2
    rw [List.nil_append, HL1.out, List.length_nil] at cA
    have hS0 := (show _ ∧ _ ∧ _ ∧ _ ∧ _ from ⟨d0, d1, d2, d3, d4⟩)
    have hSE := keepF5 hS0 b2
    have hr2E := hr2.below b2
    have hS2 := (show (_ ∧ _ ∧ _ ∧ _ ∧ _) ∧ RdA w2.drew a data from ⟨hS0, hr2⟩)
    have hS2E := (show (_ ∧ _ ∧ _ ∧ _ ∧ _) ∧ RdA (w2.alloc (.cells #[] 5)).drew a data from ⟨hSE, hr2E⟩)
    have hKp := fun (wa wb : World) => keepPut (w := wa) (w' := wb) (a1 := ⟨w.heap.size, 0, none⟩) (a2 := ⟨w.heap.size, 1, none⟩) (a3 := ⟨w.heap.size, 2, none⟩) (a4 := ⟨w.heap.size, 3, none⟩) (a5 := ⟨w.heap.size, 4, none⟩) (v1 := .int .i64 t) (v2 := .int .i64 q) (v3 := .int .i64 n) (v4 := .bool d) (v5 := .slice a data.length cap) (a := a) (data := data)
    have m2 : L2.length ≤ 1048576 := by omega
    have m1 : L1.length ≤ 1048576 := by omega
    have hK3 := fun w3 => keepPut (w := (w2.alloc (.cells #[] 5)).drew) (w' := w3) hS2E
    go_region_held3 (fun wy => (wy.cell? ⟨w.heap.size, 0, none⟩ = some (.int .i64 t) ∧ wy.cell? ⟨w.heap.size, 1, none⟩ = some (.int .i64 q) ∧ wy.cell? ⟨w.heap.size, 2, none⟩ = some (.int .i64 n) ∧ wy.cell? ⟨w.heap.size, 3, none⟩ = some (.bool d) ∧ wy.cell? ⟨w.heap.size, 4, none⟩ = some (.slice a data.length cap)) ∧ RdA wy a data)
      (first | with_reducible exact hS2 | with_reducible exact hS2E | with_reducible exact ⟨hS0, hr2⟩ | with_reducible exact ⟨hSE, hr2E⟩ | with_reducible exact hS3 | with_reducible exact hS5 | with_reducible exact hS6 | go_keep)
      (first | (go_at_call 45; with_reducible refine cA.mono ?_; rintro e w3 ⟨g3, p3, rfl, ho3, hb3⟩; have hS3 := hK3 _ hb3) | (go_at_call 46; refine (specBool8 d _).mono ?_; rintro e w4 ⟨rfl, hw4⟩; subst w4; obtain ⟨g4, p4, e4, cB⟩ := putNext ho3 n1.1 m1 (d01 d) L2 HL2; cases e4) | (go_at_call 44; with_reducible refine cB.mono ?_; rintro e w5 ⟨v5, rfl, ho5, hb5⟩; have hS5 := hKp _ _ hS3 hb5; obtain ⟨g5, p5, rfl, cC⟩ := textNext ho5 n2.1 m2 ⟨data.toArray⟩ hsz L3 HL3) | (go_at_call 43; with_reducible refine cC.mono ?_; rintro e w6 ⟨v6, rfl, ho6, hb6⟩; have hS6 := hKp _ _ hS5 hb6; obtain ⟨g6, p6, rfl, -⟩ := OwnB.shape ho6 n3.1) | fail)
    have cD := specCrc (some ⟨g6, 0, none⟩) p6 L3 w6 (by omega) (RdA.own ho6)
    rw [HX.out] at cD
    go_wp2_with fail
    refine cD.mono ?_
    rintro e w7 ⟨rfl, hw7⟩
    subst hw7
    have l3 : L3.length + 4 ≤ 1000 := by omega
    obtain ⟨i0, hi, hz0, hz1, hz2⟩ := info_parts Try.info5
    have hsz6 := hb6.size
    go_wp2_with (at_builtin; refine wpList_append_own _ rfl (.tmp 23) (.tmp 35) 22 rfl w5.heap.size 5 i0 (.int .u8 0) 1 1 Try.underlying22 hi hz0 hz1 hz2 rfl (by decide) _ _ _ rfl (World.ownsRow.alloc ho6 _) ⟨w7.heap.size, 0, none⟩ 4 4 [.int .u8 ((X : Int) / 16777216 % 256), .int .u8 ((X : Int) / 65536 % 256), .int .u8 ((X : Int) / 256 % 256), .int .u8 ((X : Int) % 256)] rfl rfl four_at four_one (by unfold maxLen; omega) (by omega) (by simp; omega) ?_; intro v8 w8 hown8 hgrow8 _)
    have ho8 : OwnB w8 w5.heap.size v8 (L3 ++ crc4 X) := OwnB.crc hown8
    have hb8 : Below w5.heap.size w7 w8 := below_own (Below.refl _ _) hsz6 ho6 hgrow8
    have hs5 : w.heap.size ≤ w5.heap.size := by have := hB2.size; have := b2.size; have := hb3.size; have := hb5.size; simp at *; omega
    obtain ⟨g8, p8, rfl, -⟩ := OwnB.shape ho8 (by simp [crc4])
    go_ret
    exact ⟨g8, p8, rfl, World.ownsRow.mono ho8 hs5, (behind (behind (behind (behind hB2 b2).drew hb3) hb5) hb6).trans (hb8.mono hs5)⟩
end Go.Proofs.Ytpejeoekpejblad.Wk
