/- What PutFile of the program comes to. -/
import Derived.Test.YtpejeoekpejbladFlI
import Derived.Test.YtpejeoekpejbladFpI
import Derived.Test.YtpejeoekpejbladPutNumN
import Derived.Test.YtpejeoekpejbladPutTextI
namespace Go.Proofs.Ytpejeoekpejblad.Wk
set_option linter.unusedVariables false
open Go.ChangeShapes Go.WideShapes Go.ChangeAt Go.RowKit

theorem four_i {w : World} {x0 x1 x2 x3 : Int} {T : TypeId} : RdI (w.alloc (.cells #[.int .i64 x0, .int .i64 x1, .int .i64 x2, .int .i64 x3] T)) (some ⟨w.heap.size, 0, none⟩) [x0, x1, x2, x3] := by
  intro i hi
  refine ⟨w.heap.size, 0, rfl, ?_⟩
  rw [World.cell?_alloc_at _ _ _ _ rfl, Nat.zero_add]
  simp at hi
  match i, hi with
  | 0, _ => rfl
  | 1, _ => rfl
  | 2, _ => rfl
  | 3, _ => rfl
theorem encs4 (t q n m : Int) : Mt.encs [t, q, n, m] = stampBytes t q n ++ Mt.enc (Mt.clamp m) := by
  unfold stampBytes Mt.encs
  simp
theorem textI {w : World} {base : Nat} {v : Value} {l : List UInt8} (h : OwnB w base v l) (h0 : 0 < l.length) (hl : l.length ≤ 1048576) (s : ByteArray) (hs : s.size ≤ 1048576) (l' : List UInt8) (he : Hid (putT l s = l')) : ∃ g p, v = .slice (some ⟨g, 0, none⟩) l.length p ∧
    Calls Try.prog 24 #[.slice (some ⟨g, 0, none⟩) l.length p, .string s] w fun e w' => ∃ v', e = .returned v' ∧ OwnB w' w.heap.size v' l' ∧ Below w.heap.size w w' := by
  obtain ⟨g, p, rfl, -⟩ := h.shape h0
  rw [← he.out]
  exact ⟨g, p, rfl, implPutText g 0 p l s w hl hs (RdA.own h)⟩

set_option maxHeartbeats 4000000 in
set_option maxRecDepth 100000 in
theorem implPut (t q n : Int) (d : Bool) (a : Option Addr) (cap : Nat) (data : List UInt8) (w : World) (hk : data.length ≤ 1048576) (hr : RdA w a data) (hc : a = none → cap = 0) :
    Calls Try.prog 7 #[.agg #[.int .i64 t, .int .i64 q, .int .i64 n, .bool d, .slice a data.length cap]] w fun e w' => ∃ (g c : Nat), e = .returned (.slice (some ⟨g, 0, none⟩) (fileBytes t q n d data).length c) ∧
      OwnB w' w.heap.size (.slice (some ⟨g, 0, none⟩) (fileBytes t q n d data).length c) (fileBytes t q n d data) ∧ Below w.heap.size w w' := by
  have cF := fun w => implFile t q n d a data.length cap w hk
  have s0 := slot5fNew w (.int .i64 t) (.int .i64 q) (.int .i64 n) (.bool d) (.slice a data.length cap) 27
  have b0 := bel1 w (.cells #[.int .i64 t, .int .i64 q, .int .i64 n, .bool d, .slice a data.length cap] 27)
  obtain ⟨⟨c0, c1, c2, c3, c4⟩, -⟩ := id s0
  cases hB : fileB t q n d data.length with
  | false =>
    have e : fileBytes t q n d data = [] := by unfold fileBytes; rw [hB]; rfl
    rw [e]
    rw [hB] at cF
    go_enter Try.func7, Try.ntmps7
    go_wp2_with fail
    refine (cF _).mono ?_
    rintro e w2 ⟨rfl, hb2⟩
    have hB2 := behind b0 hb2
    go_wp2
    go_ret
    exact ⟨w2.heap.size, 0, rfl, World.ownsRow_made w2 #[] 0 hB2.size (Nat.zero_le _) rfl, behind hB2 (bel1 w2 _)⟩
  | true =>
    have hk2 : data.length ≤ 200 := by
      unfold fileB at hB
      simp only [Bool.and_eq_true, decide_eq_true_eq] at hB
      exact hB.2.1
    rw [hB] at cF
    obtain ⟨L2, hL2⟩ : ∃ L2, Mt.encs [t, q, n, d01 d] = L2 := ⟨_, rfl⟩
    obtain ⟨L3, hL3⟩ : ∃ L3, putT L2 ⟨data.toArray⟩ = L3 := ⟨_, rfl⟩
    have e3 : fileBody t q n d data = L3 := by unfold fileBody; rw [← encs4, hL2, hL3]
    have e4 : fileBytes t q n d data = L3 ++ crc4 (Mt.crcN L3) := by unfold fileBytes; rw [if_pos hB, e3]
    have h1 := Mt.enc_len (Mt.clamp t)
    have h2 := Mt.enc_len (Mt.clamp q)
    have h3 := Mt.enc_len (Mt.clamp n)
    have h4 := Mt.enc_len (Mt.clamp (d01 d))
    have h5 := Mt.enc_len (Mt.clamp ((⟨data.toArray⟩ : ByteArray).size : Int))
    have n2 : 0 < L2.length ∧ L2.length ≤ 20 := by rw [← hL2, encs4]; unfold stampBytes; simp only [List.length_append]; omega
    have n3 : 0 < L3.length ∧ L3.length ≤ 225 := by rw [← hL3]; unfold putT; have e5 : (⟨data.toArray⟩ : ByteArray).data.toList.length = data.length := rfl; simp only [List.length_append]; omega
    obtain ⟨X, hX⟩ : ∃ X, Mt.crcN L3 = X := ⟨_, rfl⟩
    rw [e4, hX]
    have HX : Hid (Mt.crcN L3 = X) := hX
    have HL2 : Hid (Mt.encs [t, q, n, d01 d] = L2) := hL2
    have HL3 : Hid (putT L2 ⟨data.toArray⟩ = L3) := hL3
    have hsz : (⟨data.toArray⟩ : ByteArray).size ≤ 1048576 := by have e5 : (⟨data.toArray⟩ : ByteArray).size = data.length := rfl; omega
    clear hX hL2 hL3 e3 e4 h1 h2 h3 h4 h5 hB
    go_enter Try.func7, Try.ntmps7
    go_wp2_with fail
    refine (cF _).mono ?_
    rintro e w2 ⟨rfl, hb2⟩
    have hB2 := behind b0 hb2
    have s2 := s0.below hb2
    obtain ⟨⟨d0, d1, d2, d3, d4⟩, -⟩ := id s2
    have hcv := convBack a cap data hc
    clear c0 c1 c2 c3 c4 s0 cF
    go_wp2_with fail
    have b2 := bel1 w2 (.cells #[.int .i64 t, .int .i64 q, .int .i64 n, .int .i64 (d01 d)] 3)
    have cA := putNumsNil (some ⟨w2.heap.size, 0, none⟩) 4 [t, q, n, d01 d] (w2.alloc (.cells #[.int .i64 t, .int .i64 q, .int .i64 n, .int .i64 (d01 d)] 3)).drew (by simp) (four_i (w := w2))
    rw [HL2.out, show [t, q, n, d01 d].length = 4 from rfl] at cA
    have cM := fun w => deadMark d w
    generalize d01 d = dd at b2 cA cM
    have hS0 := (show _ ∧ _ ∧ _ ∧ _ ∧ _ from ⟨d0, d1, d2, d3, d4⟩)
    have hS2 := (show (fun wy : World => wy.cell? ⟨w.heap.size, 0, none⟩ = some (.int .i64 t) ∧ wy.cell? ⟨w.heap.size, 1, none⟩ = some (.int .i64 q) ∧ wy.cell? ⟨w.heap.size, 2, none⟩ = some (.int .i64 n) ∧ wy.cell? ⟨w.heap.size, 3, none⟩ = some (.bool d) ∧ wy.cell? ⟨w.heap.size, 4, none⟩ = some (.slice a data.length cap)) w2.drew from hS0)
    have hSE := keepF5 (w := w2) (w' := (w2.alloc (.cells #[.int .i64 t, .int .i64 q, .int .i64 n, .int .i64 dd] 3)).drew) hS0 b2.drew
    have hKE := fun wb => keepF5 (w := (w2.alloc (.cells #[.int .i64 t, .int .i64 q, .int .i64 n, .int .i64 dd] 3)).drew) (w' := wb) hSE
    go_region_held3 (fun wy => wy.cell? ⟨w.heap.size, 0, none⟩ = some (.int .i64 t) ∧ wy.cell? ⟨w.heap.size, 1, none⟩ = some (.int .i64 q) ∧ wy.cell? ⟨w.heap.size, 2, none⟩ = some (.int .i64 n) ∧ wy.cell? ⟨w.heap.size, 3, none⟩ = some (.bool d) ∧ wy.cell? ⟨w.heap.size, 4, none⟩ = some (.slice a data.length cap))
      (first | with_reducible exact hS2 | with_reducible exact hSE | with_reducible exact hS0 | with_reducible exact hS3 | go_keep)
      (first | (go_at_call 23; refine (cM _).mono ?_; rintro e w4 ⟨rfl, hw4⟩; subst hw4) | (go_at_call 22; with_reducible refine cA.mono ?_; rintro e w3 ⟨v3, rfl, ho3, hb3⟩; have hS3 := hKE _ hb3))
    have hB3 := behind (behind hB2 b2).drew hb3
    obtain ⟨g3, p3, rfl, cT⟩ := textI ho3 n2.1 (by omega) ⟨data.toArray⟩ hsz L3 HL3
    have hr3 := hr.below hB3
    obtain ⟨d0, d1, d2, d3, d4⟩ := id hS3
    have hcv3 := hcv _ hr3
    clear cA cM hS0 hS2 hSE hKE hS3 hcv
    go_wp2_with fail
    refine cT.mono ?_
    rintro e w4 ⟨v4, rfl, ho4, hb4⟩
    have hB4 := behind hB3 hb4
    have hs3 := hB3.size
    obtain ⟨g4, p4, rfl, -, -, -, -⟩ := ho4.shape n3.1
    have cC := sumBytes (some ⟨g4, 0, none⟩) p4 L3 w4 (by omega) (RdA.own ho4)
    rw [HX.out] at cC
    clear cT d0 d1 d2 d3 d4 hcv3
    go_wp2_with fail
    refine cC.mono ?_
    rintro e w5 ⟨rfl, hb5⟩
    have ho5 := ownBelow ho4 hb5
    have s6 := slot4fNew w5 (.int .u8 ((X : Int) / 16777216 % 256)) (.int .u8 ((X : Int) / 65536 % 256)) (.int .u8 ((X : Int) / 256 % 256)) (.int .u8 ((X : Int) % 256)) 48
    obtain ⟨i0, hi, hz0, hz1, hz2⟩ := info_parts Try.info5
    have hb6 := bel1 w5 (.cells #[.int .u8 ((X : Int) / 16777216 % 256), .int .u8 ((X : Int) / 65536 % 256), .int .u8 ((X : Int) / 256 % 256), .int .u8 ((X : Int) % 256)] 48)
    have ho6 := ownBelow ho5 hb6
    have h65 := hb6.size
    have h54 := hb5.size
    have h43 := hb4.size
    have hn6 := s6.news
    have hB6 := behind (behind hB4 hb5) hb6
    unfold sum4
    go_wp2_with (at_builtin; refine wpList_append_own _ rfl (.tmp 31) (.tmp 32) 22 rfl w3.heap.size 5 i0 (.int .u8 0) 1 1 Try.underlying22 hi hz0 hz1 hz2 rfl (by decide) _ _ _ rfl ho6 ⟨w5.heap.size, 0, none⟩ 4 4 [.int .u8 ((X : Int) / 16777216 % 256), .int .u8 ((X : Int) / 65536 % 256), .int .u8 ((X : Int) / 256 % 256), .int .u8 ((X : Int) % 256)] rfl rfl hn6 four_one (by unfold maxLen; omega) (by omega) (by omega) ?_; intro v8 w8 hown8 hgrow8 _)
    have ho8 : OwnB w8 w3.heap.size v8 (L3 ++ crc4 X) := OwnB.crc hown8
    have hB8 : Below w.heap.size w w8 := hB6.grown hgrow8 hB6.size (fun k hk => Nat.le_trans hs3 (ho6.lt k hk).1)
    obtain ⟨g8, p8, rfl, -⟩ := OwnB.shape ho8 (by simp [crc4])
    go_ret
    exact ⟨g8, p8, rfl, World.ownsRow.mono ho8 hs3, hB8⟩
end Go.Proofs.Ytpejeoekpejblad.Wk
