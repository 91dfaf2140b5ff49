/- A number's text is its digits, and the digits read as the number: plain facts on texts and numbers that come back. -/
import Derived.Test.YtekjnfkmjmmcmabDoorPaB
import Derived.Test.YtekjnfkmjmmcmabDoorDot
namespace Go.Proofs.YtekjnfkmjmmcmabDoor.Sm
open Go.RowKit

theorem isNum_init {r : List UInt8} {c : UInt8} (h : isNum (r ++ [c]) = true) (hr : 0 < r.length) : isNum r = true ∧ 1 ≤ val r := by
  have hd := isNum_digits h
  have hh := isNum_head h (by simp; omega)
  have hr2 : (r ++ [c]).head? = r.head? := by
    cases r with
    | nil => simp at hr
    | cons a b => rfl
  rw [hr2] at hh
  have hn : isNum r = true := Wk.num_mk hr (fun _ => hh) (fun x hx => hd x (List.mem_append_left _ hx))
  refine ⟨hn, ?_⟩
  cases r with
  | nil => simp at hr
  | cons a b =>
    have ha := hd a (by simp)
    have ha2 : a.toNat ≠ 48 := by
      intro e
      apply hh
      have : a = 48 := UInt8.toNat_inj.1 (by rw [e]; rfl)
      rw [this]; rfl
    have hb := val_grow b (a.toNat - 48)
    have e : val (a :: b) = b.foldl (fun n c => n * 10 + (c.toNat - 48)) (a.toNat - 48) := by unfold val; simp
    rw [e]; omega
theorem byte_back (c : UInt8) (h : 48 ≤ c.toNat) : UInt8.ofNat (48 + (c.toNat - 48)) = c := by
  rw [show 48 + (c.toNat - 48) = c.toNat from by omega]
  exact UInt8.toNat_inj.1 (by simp)
theorem dec_val : ∀ (k : Nat) (l : List UInt8), l.length = k → isNum l = true → Lib.decDigits (val l) = l := by
  intro k
  induction k with
  | zero => intro l hl h; have := isNum_pos h; omega
  | succ k ih =>
    intro l hl h
    obtain ⟨r, c, rfl⟩ : ∃ r c, l = r ++ [c] := by
      refine ⟨l.dropLast, l.getLast (fun e => by rw [e] at hl; simp at hl), ?_⟩
      rw [List.dropLast_concat_getLast]
    have hc := isNum_digits h c (by simp)
    rw [val_snoc]
    by_cases hr : 0 < r.length
    · obtain ⟨hn, hv⟩ := isNum_init h hr
      have e := ih r (by simp at hl; omega) hn
      rw [Lib.decDigits, dif_neg (by omega)]
      rw [show (val r * 10 + (c.toNat - 48)) / 10 = val r from by omega, show (val r * 10 + (c.toNat - 48)) % 10 = c.toNat - 48 from by omega, e, byte_back c hc.1]
    · have hr0 : r = [] := List.length_eq_zero_iff.1 (by omega)
      subst hr0
      rw [show val [] = 0 from rfl, Lib.decDigits_one (by omega), Nat.zero_mul, Nat.zero_add, byte_back c hc.1]
      rfl
theorem rd_dec {m : Nat} {l : List UInt8} {v : Nat} (h : rd m l = some v) : Lib.decDigits v = l := by
  unfold rd at h
  split at h
  · rename_i hh
    cases h
    exact dec_val _ l rfl hh.1
  · cases h
/-- the pieces with the dots between are the text -/
theorem pieces_join (l : List UInt8) : ∀ p ps, pieces l = p :: ps → l = p ++ ps.flatMap fun x => 46 :: x := by
  induction l with
  | nil => intro p ps h; simp [pieces] at h; obtain ⟨rfl, rfl⟩ := h; rfl
  | cons c r ih =>
    intro p ps h
    by_cases hc : c = 46
    · subst hc
      rw [pieces_dot] at h
      simp only [List.cons.injEq] at h
      obtain ⟨rfl, rfl⟩ := h
      cases hp : pieces r with
      | nil => exact absurd hp (pieces_ne r)
      | cons q qs =>
        have := ih q qs hp
        conv => lhs; rw [this]
        simp
    · obtain ⟨q, qs, e1, e2⟩ := pieces_no hc r
      rw [e2] at h
      simp only [List.cons.injEq] at h
      obtain ⟨rfl, rfl⟩ := h
      have := ih q qs e1
      conv => lhs; rw [this]
      rfl
theorem parse_text {s : ByteArray} {t q n : Nat} (h : parse s.data.toList = some (t, q, n)) : Wk.dotted t q n = s ∧ ok t q n = true := by
  by_cases h3 : (pieces s.data.toList).length = 3
  · obtain ⟨p0, p1, p2, hp⟩ := Wk.three_of h3
    rw [Wk.parse_three hp] at h
    cases e0 : rd 1000000000 p0 with
    | none => rw [e0] at h; cases h
    | some t' =>
      cases e1 : rd 1000000 p1 with
      | none => rw [e0, e1] at h; cases h
      | some q' =>
        cases e2 : rd 20 p2 with
        | none => rw [e0, e1, e2] at h; cases h
        | some n' =>
          rw [e0, e1, e2] at h
          simp only [Option.bind_some, Option.map_some, Option.some.injEq, Prod.mk.injEq] at h
          obtain ⟨rfl, rfl, rfl⟩ := h
          have lim : ∀ {m : Nat} {l : List UInt8} {v : Nat}, rd m l = some v → v ≤ m := by
            intro m l v h
            unfold rd at h
            split at h
            · rename_i hh; cases h; exact hh.2
            · cases h
          have b0 := lim e0
          have b1 := lim e1
          have b2 := lim e2
          refine ⟨?_, ok_mk ⟨⟨by omega, by omega⟩, ⟨by omega, by omega⟩, by omega, by omega⟩⟩
          have hj := pieces_join _ _ _ hp
          unfold Wk.dotted
          rw [rd_dec e0, rd_dec e1, rd_dec e2]
          apply ByteArray.ext
          apply Array.toList_inj.1
          rw [hj]
          simp
  · rw [Wk.parse_few h3] at h; cases h
end Go.Proofs.YtekjnfkmjmmcmabDoor.Sm
