/- The text of devices reads as these devices, and what is read of a text has that text: plain facts. -/
import Derived.Test.YtekjnfkmjmmcmabGreatDoorPwM
import Derived.Test.YtekjnfkmjmmcmabGreatDoorBackD
namespace Go.Proofs.YtekjnfkmjmmcmabGreatDoor.Dv
set_option linter.unusedVariables false
open Go.RowKit

theorem no_sign (v : Nat) (d : UInt8) (hd : d.toNat < 48 ∨ 57 < d.toNat) : ∀ c ∈ Lib.decDigits v, c ≠ d := by
  intro c hc e
  have := (Sm.dec_facts v).2.1 c hc
  rw [e] at this
  omega
theorem wtext_eq (d : Sm.St) : wtext d = Lib.decDigits d.1.toNat ++ 58 :: (Lib.decDigits d.2.1.toNat ++ 58 :: Lib.decDigits d.2.2.toNat) := by
  simp [wtext]
theorem wtext_pieces (d : Sm.St) : Pc.pieces 58 (wtext d) = [Lib.decDigits d.1.toNat, Lib.decDigits d.2.1.toNat, Lib.decDigits d.2.2.toNat] := by
  rw [wtext_eq, Pc.pieces_run _ _ (no_sign _ _ (by decide)), Pc.pieces_run _ _ (no_sign _ _ (by decide)), Pc.pieces_end _ (no_sign _ _ (by decide))]
theorem wtext_no (d : Sm.St) : ∀ c ∈ wtext d, c ≠ 32 := by
  intro c hc
  rw [wtext_eq] at hc
  simp only [List.mem_append, List.mem_cons] at hc
  rcases hc with h | rfl | h | rfl | h
  · exact no_sign _ _ (by decide) c h
  · decide
  · exact no_sign _ _ (by decide) c h
  · decide
  · exact no_sign _ _ (by decide) c h
theorem num_dec (v : Nat) (h : v ≤ 1000) : Sm.num10 (Lib.decDigits v) = v := rd_num10 (m := 1000) (by omega) (Sm.rd_of v 1000 h)
theorem word_wtext {d : Sm.St} (h : dev d.1 d.2.1 d.2.2 = true) : word (wtext d) = some d := by
  rw [word_three (wtext_pieces d)]
  unfold dev at h
  simp only [Bool.and_eq_true, decide_eq_true_eq] at h
  rw [num_dec _ (by omega), num_dec _ (by omega), num_dec _ (by omega)]
  obtain ⟨i, z, n⟩ := d
  simp only [Option.some.injEq, Prod.mk.injEq]
  dsimp only at h
  omega
theorem dtext_pieces : ∀ (x : Sm.St) (r : List Sm.St), Pc.pieces 32 (dtext (x :: r)) = (x :: r).map wtext
  | x, [] => by rw [dtext_one, Pc.pieces_end _ (wtext_no x)]; rfl
  | x, y :: r => by
    have ih := dtext_pieces y r
    have e : dtext (x :: y :: r) = wtext x ++ 32 :: dtext (y :: r) := by
      unfold dtext
      rw [List.map_cons, Lib.join_cons, List.map_cons, Lib.join_cons]
      simp [Lib.joinTail]
    rw [e, Pc.pieces_run _ _ (wtext_no x), ih]
    rfl
theorem words_map : ∀ (l Z : List Sm.St), (∀ d ∈ l, dev d.1 d.2.1 d.2.2 = true) → (l.map wtext).foldl more (some Z) = some (Z ++ l)
  | [], Z, _ => by simp
  | x :: r, Z, h => by
    rw [List.map_cons, List.foldl_cons]
    have e : more (some Z) (wtext x) = some (Z ++ [x]) := by
      unfold more
      rw [word_wtext (h x List.mem_cons_self)]
      rfl
    rw [e, words_map r _ (fun d hd => h d (List.mem_cons_of_mem _ hd)), List.append_assoc]
    rfl
/-- devices that are right come back of their text -/
theorem parse_dtext {l : List Sm.St} (h : devs l = true) : parse (dtext l) = some l := by
  obtain ⟨⟨h1, -⟩, hd⟩ := devs_dev h
  cases l with
  | nil => simp at h1
  | cons x r =>
    unfold parse
    rw [dtext_pieces, words, words_map _ _ hd, List.nil_append]
    show (if devs (x :: r) = true then some (x :: r) else none) = _
    rw [if_pos h]
theorem wtext_word {p : List UInt8} {x : Sm.St} (h : word p = some x) (hd : dev x.1 x.2.1 x.2.2 = true) : wtext x = p := by
  by_cases h3 : (Pc.pieces 58 p).length = 3
  · obtain ⟨a, b, c, e⟩ := three h3
    rw [word_three e] at h
    have hx := Option.some.inj h
    subst hx
    unfold dev at hd
    simp only [Bool.and_eq_true, decide_eq_true_eq] at hd
    obtain ⟨u, h1, u1⟩ := (Sm.num10_rd a 20 (by omega)).1 (by omega)
    obtain ⟨v, h2, v1⟩ := (Sm.num10_rd b 20 (by omega)).1 (by omega)
    obtain ⟨t, h4, t1⟩ := (Sm.num10_rd c 1000 (by omega)).1 (by omega)
    rw [wtext_eq]
    dsimp only
    rw [u1, v1, t1, Int.toNat_natCast, Int.toNat_natCast, Int.toNat_natCast, Sm.rd_dec h1, Sm.rd_dec h2, Sm.rd_dec h4]
    have hj := Pc.pieces_join 58 p _ _ e
    rw [hj]
    simp
  · rw [word_few h3] at h; cases h
/-- what is read of a text is right, and has that text -/
theorem parse_back {l : List UInt8} {X : List Sm.St} (h : parse l = some X) : devs X = true ∧ dtext X = l := by
  unfold parse at h
  cases hw : words (Pc.pieces 32 l) with
  | none => rw [hw] at h; cases h
  | some Y =>
    rw [hw] at h
    have h' : (if devs Y = true then some Y else none) = some X := h
    split at h'
    · next hk =>
      have e := Option.some.inj h'
      subst e
      refine ⟨hk, ?_⟩
      obtain ⟨Y', e1, e2, e3⟩ := words_get _ _ _ hw
      rw [List.nil_append] at e1
      subst e1
      obtain ⟨-, hd⟩ := devs_dev hk
      have em : Y.map wtext = Pc.pieces 32 l := by
        refine List.ext_getElem (by rw [List.length_map, e2]) (fun i h1 h2 => ?_)
        rw [List.getElem_map]
        exact wtext_word (e3 i h2 (by omega)) (hd _ (List.getElem_mem _))
      unfold dtext
      rw [em]
      cases hp : Pc.pieces 32 l with
      | nil => exact absurd hp (Pc.pieces_ne 32 l)
      | cons p ps =>
        rw [Lib.join_cons]
        conv => rhs; rw [Pc.pieces_join 32 l p ps hp]
        congr 1
    · cases h'
theorem parse_nil : parse [] = none := by decide
end Go.Proofs.YtekjnfkmjmmcmabGreatDoor.Dv
