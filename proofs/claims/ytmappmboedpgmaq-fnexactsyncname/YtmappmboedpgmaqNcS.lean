/- What l9Cut of the specification comes to: all rows but those of the name. -/
import Derived.Test.YtmappmboedpgmaqApR
import Derived.Test.YtmappmboedpgmaqDkS
namespace Go.Proofs.Ytmappmboedpgmaq.Wk
set_option linter.unusedVariables false
open Go.ChangeShapes Go.WideShapes Go.ChangeAt Go.RowKit

theorem cut_take {s : ByteArray} {l : List Rw} {k : Nat} (h : k < l.length) : cutR (l.take (k + 1)) s = if l[k].1 = s then cutR (l.take k) s else cutR (l.take k) s ++ [l[k]] := by
  unfold cutR
  rw [List.take_succ_eq_append_getElem h, List.filter_append]
  by_cases e : l[k].1 = s <;> simp [e]
theorem cut_len (l : List Rw) (s : ByteArray) : (cutR l s).length ≤ l.length := List.length_filter_le _ _

set_option maxHeartbeats 4000000 in
set_option maxRecDepth 100000 in
theorem specCut (a : Option Addr) (ca : Nat) (rs : List Rw) (s : ByteArray) (w : World) (hl : rs.length ≤ 2097152) (hr : RdR w a rs) (hy : BysR w rs) :
    Calls Try.prog 26 #[.slice a rs.length ca, .string s] w fun e w' => ∃ v, e = .returned v ∧ (∃ a' c', v = .slice a' (cutR rs s).length c') ∧
      w'.ownsRow w.heap.size 57 2 v (cutR rs s).length (csR (cutR rs s)) ∧ Below w.heap.size w w' := by
  have q0 := World.ownsRow_made (e := 57) (size := 2) w #[] 0 (Nat.le_refl _) (Nat.zero_le _) rfl
  go_enter Try.func26, Try.ntmps26
  go_wp2
  go_loopw [5, 6] (fun q i wr => ∃ (k : Nat) (o : List Rw), k ≤ rs.length ∧ i = .int .i64 k ∧ o.length ≤ k ∧ Hid (cutR (rs.take k) s = o) ∧ wr.ownsRow w.heap.size 57 2 q o.length (csR o) ∧ Below w.heap.size w wr) (fun _ i _ => rs.length - (intOf i).toNat)
  case atStart => exact ⟨0, [], Nat.zero_le _, rfl, Nat.zero_le _, rfl, q0, bel1 w _⟩
  case round =>
    obtain ⟨k, o, hk, rfl, hol, HS, hq, hb⟩ := hrel
    obtain ⟨av, cv, rfl⟩ := Nd_shape hq
    by_cases hlt : k < rs.length
    · have HN : Hid (cutR (rs.take (k + 1)) s = if rs[k].1 = s then o else o ++ [rs[k]]) := by
        show cutR (rs.take (k + 1)) s = _
        rw [cut_take hlt, HS.out]
      obtain ⟨b, off, rfl, c1, c2⟩ := (hr.below hb) k hlt
      have hy1 := rdV_shape (hy _ (List.getElem_mem hlt))
      generalize rs[k] = y at HN c1 c2 hy1
      obtain ⟨yn, yu, yb⟩ := y
      dsimp only at c1 c2 hy1 HN
      have bC := bel1 wr (.cells #[.string yn, yu] 57)
      have rowC := ownBelow hq bC
      have hbz := hb.size
      by_cases he : yn = s
      · have HN2 : Hid (cutR (rs.take (k + 1)) s = o) := by have := HN.out; rwa [if_pos he] at this
        rw [he] at c1
        clear he HN
        go_wp2
        go_roundw
        case rel => exact ⟨k + 1, o, by omega, by go_num, by omega, HN2, hq, hb⟩
        case measure => simp [intOf]; omega
      · have HN2 : Hid (cutR (rs.take (k + 1)) s = o ++ [(yn, yu, yb)]) := by have := HN.out; rwa [if_neg he] at this
        have hne := bytes_ne he
        clear he HN
        go_wp2_with (at_builtin; refine wpList_appR _ rfl (.tmp 21) (.tmp 26) rfl w.heap.size (.slice av o.length cv) o rfl rowC ⟨wr.heap.size, 0, none⟩ 1 (yn, yu, yb) rfl two_at hy1 (by omega) (by first | omega | (simp; omega)) (wr.heap.size + 1) (World.size_alloc _ _) ?_; intro g2 cap2 w2 hown2 hgrow2 hat2)
        have hB2 := (behind hb bC).grown hgrow2 (by simp; omega) (fun j e => (World.ownsRow.lt hq j e).1)
        go_roundw
        case rel => exact ⟨k + 1, o ++ [(yn, yu, yb)], by omega, by go_num, by simp; omega, HN2, by rw [show (o ++ [(yn, yu, yb)]).length = o.length + 1 from by simp]; rw [show (o ++ [(yn, yu, yb)]).length = o.length + 1 from by simp] at hown2; exact hown2, hB2⟩
        case measure => simp [intOf]; omega
    · have hkl : k = rs.length := by omega
      subst hkl
      have HE := HS.out
      rw [List.take_length] at HE
      subst HE
      go_wp2
      go_ret
      exact ⟨_, rfl, ⟨av, cv, rfl⟩, hq, hb⟩
end Go.Proofs.Ytmappmboedpgmaq.Wk
