/- What the laws' marks in a disk come to, and that they are found again: markNamedS, markDisk, heldNamedS, heldDisk. -/
import Derived.Test.YtmappmboedpgmaqMtW
import Derived.Test.YtmappmboedpgmaqByW
import Derived.Test.YtmappmboedpgmaqRwK
import Derived.Test.YtmappmboedpgmaqNeS
import Derived.Deep.CutBlock
import Derived.Deep.DeepCutAuto
import Derived.Deep.RegionHeld3
namespace Go.Proofs.Ytmappmboedpgmaq.Wk
set_option linter.unusedVariables false
open Go.ChangeShapes Go.WideShapes Go.ChangeAt Go.RowKit

/-- how many marks a list takes -/
def totR (rs : List Rw) : Nat := (rs.map fun r => 1 + r.2.2.length).sum
theorem totR_take {rs : List Rw} {k : Nat} (h : k < rs.length) : totR (rs.take (k + 1)) = totR (rs.take k) + (1 + rs[k].2.2.length) := by
  unfold totR
  rw [List.take_succ_eq_append_getElem h, List.map_append, List.sum_append]
  rfl
theorem totR_le (rs : List Rw) (k : Nat) : totR (rs.take k) ≤ totR rs := by
  unfold totR
  have := congrArg (fun t : List Rw => (t.map fun r => 1 + r.2.2.length).sum) (List.take_append_drop k rs)
  simp only [List.map_append, List.sum_append] at this
  omega
/-- the rows' cells, marked from m on -/
def mkC : List Rw → Nat → List Value
  | [], _ => []
  | r :: t, m => .string (mtT m) :: r.2.1 :: mkC t (m + (1 + r.2.2.length))
theorem mkC_len : ∀ (rs : List Rw) (m : Nat), (mkC rs m).length = rs.length * 2
  | [], _ => rfl
  | r :: t, m => by simp [mkC, mkC_len t]; omega
theorem mkC_snoc : ∀ (rs : List Rw) (m : Nat) (r : Rw), mkC (rs ++ [r]) m = mkC rs m ++ [.string (mtT (m + totR rs)), r.2.1]
  | [], m, r => by simp [mkC, totR]
  | x :: t, m, r => by
    have h : totR (x :: t) = (1 + x.2.2.length) + totR t := by simp [totR]
    simp only [List.cons_append, mkC, mkC_snoc t, h]
    rw [show m + (1 + x.2.2.length) + totR t = m + (1 + x.2.2.length + totR t) from by omega]
theorem mkC_get : ∀ (rs : List Rw) (m i : Nat) (h : i < rs.length), (mkC rs m)[i * 2]? = some (.string (mtT (m + totR (rs.take i)))) ∧ (mkC rs m)[i * 2 + 1]? = some rs[i].2.1
  | r :: t, m, 0, h => ⟨by simp [mkC, totR], by simp [mkC]⟩
  | r :: t, m, i + 1, h => by
    have ih := mkC_get t (m + (1 + r.2.2.length)) i (by simpa using h)
    have h2 : totR ((r :: t).take (i + 1)) = (1 + r.2.2.length) + totR (t.take i) := by simp [totR]
    rw [show (i + 1) * 2 = i * 2 + 1 + 1 from by omega]
    refine ⟨?_, by simpa [mkC] using ih.2⟩
    simp only [mkC, List.getElem?_cons_succ]
    rw [ih.1, h2, Nat.add_assoc]
/-- marks lie in the bytes of the first k rows -/
def MkB (w : World) (base : Nat) (rs : List Rw) (m k : Nat) : Prop := ∀ i (h : i < rs.length), i < k → w.ownsRow base 5 1 rs[i].2.1 rs[i].2.2.length (mks (m + totR (rs.take i) + 1) rs[i].2.2.length)
/-- the bytes of the rows from k on are the call's own -/
def OwB (w : World) (base : Nat) (rs : List Rw) (k : Nat) : Prop := ∀ i (h : i < rs.length), k ≤ i → ∃ xs, w.ownsRow base 5 1 rs[i].2.1 rs[i].2.2.length xs
/-- nothing has turned but the blocks of S, and new ones -/
def KeptS (S : Nat → Prop) (w w' : World) : Prop := w'.os = w.os ∧ w'.tape = w.tape ∧ w'.output = w.output ∧ w.heap.size ≤ w'.heap.size ∧ ∀ b, b < w.heap.size → ¬ S b → w'.heap[b]? = w.heap[b]?
theorem KeptS.refl (S : Nat → Prop) (w : World) : KeptS S w w := ⟨rfl, rfl, rfl, Nat.le_refl _, fun _ _ _ => rfl⟩
theorem KeptS.trans {S : Nat → Prop} {w w1 w2 : World} (h : KeptS S w w1) (k : KeptS S w1 w2) : KeptS S w w2 :=
  ⟨k.1.trans h.1, k.2.1.trans h.2.1, k.2.2.1.trans h.2.2.1, Nat.le_trans h.2.2.2.1 k.2.2.2.1, fun b hb hr => (k.2.2.2.2 b (Nat.lt_of_lt_of_le hb h.2.2.2.1) hr).trans (h.2.2.2.2 b hb hr)⟩
theorem KeptS.mono {S S' : Nat → Prop} {w w' : World} (h : KeptS S w w') (hs : ∀ b, S b → S' b) : KeptS S' w w' :=
  ⟨h.1, h.2.1, h.2.2.1, h.2.2.2.1, fun b hb hn => h.2.2.2.2 b hb (fun x => hn (hs b x))⟩
theorem KeptS.grown {S : Nat → Prop} {w w1 w2 : World} {row : Option Nat} (h : KeptS S w w1) (k : w1.grownBy w2 row) (hr : ∀ j, row = some j → S j) : KeptS S w w2 :=
  ⟨k.os.trans h.1, k.tape.trans h.2.1, k.output.trans h.2.2.1, Nat.le_trans h.2.2.2.1 k.size, fun b hb hx => (k.block b (Nat.lt_of_lt_of_le hb h.2.2.2.1) (fun e => hx (hr b e.symm))).trans (h.2.2.2.2 b hb hx)⟩
theorem KeptS.below {S : Nat → Prop} {w w1 w2 : World} (h : KeptS S w w1) (k : Below w1.heap.size w1 w2) : KeptS S w w2 :=
  ⟨k.os.trans h.1, k.tape.trans h.2.1, k.output.trans h.2.2.1, Nat.le_trans h.2.2.2.1 k.size, fun b hb hx => (k.block b (Nat.lt_of_lt_of_le hb h.2.2.2.1)).trans (h.2.2.2.2 b hb hx)⟩
theorem KeptS.own {S : Nat → Prop} {w w' : World} {base e size n : Nat} {v : Value} {xs : List Value} (h : KeptS S w w') (ho : w.ownsRow base e size v n xs) (hv : ∀ j, v.ownBlock = some j → ¬ S j) : w'.ownsRow base e size v n xs := by
  refine ⟨ho.1, ?_⟩
  rcases ho.2 with h0 | ⟨g, cap, cur, e1, hb, hg, r⟩
  · exact .inl h0
  · refine .inr ⟨g, cap, cur, e1, hb, ?_, r⟩
    subst e1
    rw [h.2.2.2.2 g (Array.getElem?_eq_some_iff.1 hg).1 (hv g rfl)]
    exact hg
theorem KeptS.slot {S : Nat → Prop} {w w' : World} {b : Nat} {u v : Value} (h : KeptS S w w') (hs : Slot2d w b u v) (hb : ¬ S b) : Slot2d w' b u v := by
  have e := h.2.2.2.2 b hs.lt hb
  exact ⟨⟨by rw [World.cell?_of_block (a := ⟨b, 0, none⟩) e]; exact hs.1.1, by rw [World.cell?_of_block (a := ⟨b, 1, none⟩) e]; exact hs.1.2⟩, by rw [World.frozen?_of_block (a := ⟨b, 0, none⟩) e]; exact hs.2.1, by rw [World.frozen?_of_block (a := ⟨b, 1, none⟩) e]; exact hs.2.2⟩
theorem KeptS.toBelow {B : Nat} {S : Nat → Prop} {w0 w w' : World} (hb : Below B w0 w) (h : KeptS S w w') (hl : ∀ b, S b → B ≤ b) (hs : B ≤ w.heap.size) : Below B w0 w' :=
  hb.trans ⟨h.1, h.2.1, h.2.2.1, by have := h.2.2.2.1; omega, fun k hk => h.2.2.2.2 k (by omega) (fun x => by have := hl k x; omega)⟩
/-- the blocks of a list and of its bytes -/
def BlkS (v : Value) (rs : List Rw) (b : Nat) : Prop := v.ownBlock = some b ∨ ∃ r ∈ rs, r.2.1.ownBlock = some b
theorem apartAt {rs : List Rw} (h : (vals rs).Pairwise Apart) {i j : Nat} (hi : i < rs.length) (hj : j < rs.length) (hne : i ≠ j) : Apart rs[i].2.1 rs[j].2.1 := by
  unfold vals at h
  rw [List.pairwise_map, List.pairwise_iff_getElem] at h
  rcases Nat.lt_or_gt_of_ne hne with e | e
  · exact h i j hi hj e
  · exact Apart.symm (h j i hj hi e)

set_option maxHeartbeats 1000000 in
set_option maxRecDepth 100000 in
/-- marks in bytes of one's own, nil or not -/
theorem markBs (base n k0 : Nat) (u : Value) (xs : List Value) (w : World) (hn : n ≤ 1073741824) (hk0 : k0 ≤ 1073741824) (ho : w.ownsRow base 5 1 u n xs) :
    Calls Try.prog 60 #[u, .int .i64 (k0 : Int)] w fun e w' => e = .returned (.int .i64 ((k0 : Int) + (n : Int))) ∧ w'.ownsRow base 5 1 u n (mks k0 n) ∧ w.grownBy w' u.ownBlock := by
  rcases ho.2 with ⟨rfl, rfl⟩ | ⟨g, cap, cur, rfl, -⟩
  · go_enter Try.func60, Try.ntmps60
    go_wp2
    go_loopw [1, 5] (fun q i wr => q = .int .i64 (k0 : Int) ∧ i = .int .i64 0 ∧ wr = w) (fun _ i _ => 0)
    case atStart => exact ⟨rfl, rfl, rfl⟩
    case round =>
      obtain ⟨rfl, rfl, rfl⟩ := hrel
      go_wp2
      go_ret
      exact ⟨by simp, World.ownsRow_nil _ _ _ _, rfl, rfl, rfl, Nat.le_refl _, fun _ _ _ => rfl⟩
  · exact markByteS base g cap n k0 xs w hn hk0 ho
set_option maxHeartbeats 1000000 in
set_option maxRecDepth 100000 in
theorem heldBs (base n k0 : Nat) (u : Value) (w : World) (hn : n ≤ 1073741824) (hk0 : k0 ≤ 1073741824) (ho : w.ownsRow base 5 1 u n (mks k0 n)) :
    Calls Try.prog 61 #[u, .int .i64 (k0 : Int)] w fun e w' => e = .returned (.int .i64 ((k0 : Int) + (n : Int))) ∧ w' = w := by
  rcases ho.2 with ⟨rfl, rfl⟩ | ⟨g, cap, cur, rfl, -⟩
  · go_enter Try.func61, Try.ntmps61
    go_wp2
    go_loopw [1, 5] (fun q i wr => q = .int .i64 (k0 : Int) ∧ i = .int .i64 0 ∧ wr = w) (fun _ i _ => 0)
    case atStart => exact ⟨rfl, rfl, rfl⟩
    case round =>
      obtain ⟨rfl, rfl, rfl⟩ := hrel
      go_wp2
      go_ret
      exact ⟨by simp, rfl⟩
  · exact heldByteS base g cap n k0 w hn hk0 ho

set_option maxHeartbeats 4000000 in
set_option maxRecDepth 100000 in
theorem markNds (base m : Nat) (v : Value) (rs : List Rw) (w : World) (hm0 : 0 < m) (hm : m + totR rs ≤ 1073741824) (hl : rs.length ≤ 2097152) (ho : w.ownsRow base 57 2 v rs.length (csR rs)) (hby : OwB w base rs 0) (hp : (v :: vals rs).Pairwise Apart) :
    Calls Try.prog 36 #[v, .int .i64 (m : Int)] w fun e w' => e = .returned (.int .i64 ((m + totR rs : Nat) : Int)) ∧ w'.ownsRow base 57 2 v rs.length (mkC rs m) ∧ MkB w' base rs m rs.length ∧ KeptS (BlkS v rs) w w' := by
  obtain ⟨hpv, hpp⟩ := List.pairwise_cons.1 hp
  have HPV : Hid (∀ i (h : i < rs.length), Apart v rs[i].2.1) := fun i h => hpv _ (List.mem_map.2 ⟨rs[i], List.getElem_mem h, rfl⟩)
  obtain ⟨av, cv, rfl⟩ := Nd_shape ho
  clear hpv hp
  go_enter Try.func36, Try.ntmps36
  go_wp2
  go_loopw [1, 5] (fun q i wr => ∃ k : Nat, k ≤ rs.length ∧ i = .int .i64 k ∧ q = .int .i64 ((m + totR (rs.take k) : Nat) : Int) ∧ wr.ownsRow base 57 2 (.slice av rs.length cv) rs.length (mkC (rs.take k) m ++ csR (rs.drop k)) ∧ Hid (MkB wr base rs m k) ∧ Hid (OwB wr base rs k) ∧ Hid (KeptS (BlkS (.slice av rs.length cv) rs) w wr)) (fun _ i _ => rs.length - (intOf i).toNat)
  case atStart => exact ⟨0, Nat.zero_le _, rfl, by simp [totR], by simpa [mkC] using ho, (show MkB w base rs m 0 from fun i h hi => by omega), hby, KeptS.refl _ _⟩
  case round =>
    obtain ⟨k, hk, rfl, rfl, hrow, HM, HO, HK⟩ := hrel
    by_cases hlt : k < rs.length
    · obtain ⟨g, rfl⟩ : ∃ g, av = some ⟨g, 0, none⟩ := by
        rcases hrow.2 with ⟨e, h0⟩ | ⟨g, cap, cur, e, -⟩
        · omega
        · simp only [Value.slice.injEq] at e
          exact ⟨g, e.1⟩
      have HT : Hid (totR (rs.take (k + 1)) = totR (rs.take k) + (1 + rs[k].2.2.length)) := totR_take hlt
      have hle := totR_le rs (k + 1)
      have hle2 : totR (rs.take k) + (1 + rs[k].2.2.length) ≤ totR rs := by rw [← HT.out]; exact hle
      have hgk : BlkS (.slice (some ⟨g, 0, none⟩) rs.length cv) rs g := .inl rfl
      have hdrop : csR (rs.drop k) = .string rs[k].1 :: rs[k].2.1 :: csR (rs.drop (k + 1)) := by
        rw [List.drop_eq_getElem_cons hlt]
        rfl
      have hml : (mkC (rs.take k) m).length = k * 2 := by rw [mkC_len, List.length_take]; omega
      rw [hdrop] at hrow
      have HC : Hid (mkC (rs.take (k + 1)) m = mkC (rs.take k) m ++ [.string (mtT (m + totR (rs.take k))), rs[k].2.1]) := by
        show _ = _
        rw [List.take_succ_eq_append_getElem hlt, mkC_snoc]
      obtain ⟨ya, ym, yc, hsh⟩ : ∃ a n c, rs[k].2.1 = .slice a n c := by
        obtain ⟨xs, hx⟩ := HO.out k hlt (Nat.le_refl _)
        obtain ⟨a, c, e⟩ := By_shape hx
        exact ⟨a, _, c, e⟩
      have HAV := HPV.out k hlt
      have cT := markText (m + totR (rs.take k)) wr (by omega) (by omega)
      have HKi : Hid (∀ i (h : i < rs.length), i ≠ k → Apart rs[i].2.1 rs[k].2.1) := fun i h hne => apartAt hpp h hlt hne
      have hmem : BlkS (.slice (some ⟨g, 0, none⟩) rs.length cv) rs = BlkS (.slice (some ⟨g, 0, none⟩) rs.length cv) rs := rfl
      have HBk : Hid (∀ j, rs[k].2.1.ownBlock = some j → BlkS (.slice (some ⟨g, 0, none⟩) rs.length cv) rs j) := fun j e => .inr ⟨rs[k], List.getElem_mem hlt, e⟩
      obtain ⟨xk, hok⟩ := HO.out k hlt (Nat.le_refl _)
      have hk0 := mkC_len (rs.take k) m
      generalize hT0 : totR (rs.take k) = T at *
      clear hle hdrop hmem
      rw [hsh] at hrow
      go_wp2_with fail
      go_at_call 59
      refine cT.mono ?_
      rintro e w2 ⟨rfl, hb2⟩
      have ho2 := ownBelow hrow hb2
      have hlen := ho2.1
      have z0 := ho2.frozenAt (k * 2)
      have c0' := ho2.cellAt (k * 2) (by omega)
      have c1' := ho2.cellAt (k * 2 + 1) (by omega)
      rw [List.getElem?_eq_getElem (by omega)] at c0'
      have hst := ho2.stored (k * 2) (.string (mtT (m + T)))
      have e1 : (mkC (rs.take k) m ++ .string rs[k].1 :: .slice ya ym yc :: csR (rs.drop (k + 1)))[k * 2 + 1]? = some (.slice ya ym yc) := by
        rw [List.getElem?_append_right (by omega), show k * 2 + 1 - (mkC (rs.take k) m).length = 1 from by omega]
        rfl
      rw [e1] at c1'
      have c1'' : (w2.setCell ⟨g, k * 2, none⟩ (.string (mtT (m + T)))).cell? ⟨g, k * 2 + 1, none⟩ = some (.slice ya ym yc) := by
        rw [World.cell?_setCell_other _ _ _ _ (by simp)]
        exact c1'
      obtain ⟨ho3, hg3⟩ := hst
      have hne : (Value.slice ya ym yc).ownBlock = none ∨ (Value.slice ya ym yc).ownBlock ≠ some g := by
        have := Apart.symm HAV
        rw [hsh] at this
        exact this
      have hok3 : (w2.setCell ⟨g, k * 2, none⟩ (.string (mtT (m + T)))).ownsRow base 5 1 (.slice ya ym yc) rs[k].2.2.length xk := by
        rw [hsh] at hok
        exact World.ownsRow.kept (ownBelow hok hb2) hg3 hne
      have K3 : KeptS (BlkS (.slice (some ⟨g, 0, none⟩) rs.length cv) rs) w (w2.setCell ⟨g, k * 2, none⟩ (.string (mtT (m + T)))) := (HK.out.below hb2).grown hg3 (fun j e => by cases e; exact hgk)
      have M3 : MkB (w2.setCell ⟨g, k * 2, none⟩ (.string (mtT (m + T)))) base rs m k := fun i h hi => World.ownsRow.kept (ownBelow (HM.out i h hi) hb2) hg3 (Apart.symm (HPV.out i h))
      have O3 : OwB (w2.setCell ⟨g, k * 2, none⟩ (.string (mtT (m + T)))) base rs k := fun i h hi => by
        obtain ⟨xs, hx⟩ := HO.out i h hi
        exact ⟨xs, World.ownsRow.kept (ownBelow hx hb2) hg3 (Apart.symm (HPV.out i h))⟩
      have HM3 : Hid (MkB (w2.setCell ⟨g, k * 2, none⟩ (.string (mtT (m + T)))) base rs m k) := M3
      have HO3 : Hid (OwB (w2.setCell ⟨g, k * 2, none⟩ (.string (mtT (m + T)))) base rs k) := O3
      have HK3 : Hid (KeptS (BlkS (.slice (some ⟨g, 0, none⟩) rs.length cv) rs) w (w2.setCell ⟨g, k * 2, none⟩ (.string (mtT (m + T))))) := K3
      clear M3 O3 K3 HM HO HK hok hrow ho2 c1' hg3 cT e1
      have hset : (mkC (rs.take k) m ++ .string rs[k].1 :: .slice ya ym yc :: csR (rs.drop (k + 1))).set (k * 2) (.string (mtT (m + T))) = mkC (rs.take (k + 1)) m ++ csR (rs.drop (k + 1)) := by
        rw [HC.out, ← hml, List.set_append_right _ _ (Nat.le_refl _), Nat.sub_self, List.set_cons_zero, hsh]
        simp
      rw [hset] at ho3
      have hmk : m + T + 1 ≤ 1073741824 := by omega
      have hnk : rs[k].2.2.length ≤ 1073741824 := by omega
      go_upto_region 5 with fail
      generalize w2.setCell ⟨g, k * 2, none⟩ (.string (mtT (m + T))) = w3 at *
      have cB := markBs base rs[k].2.2.length (m + T + 1) (.slice ya ym yc) xk w3 hnk hmk hok3
      have ecast : ((m + T + 1 : Nat) : Int) = ((m + T : Nat) : Int) + 1 := by omega
      rw [ecast] at cB
      have HE : Hid (((m + T : Nat) : Int) + 1 + (rs[k].2.2.length : Int) = ((m + totR (rs.take (k + 1)) : Nat) : Int)) := by
        show _ = _
        rw [HT.out]
        omega
      rw [HE.out] at cB
      go_wp2_with fail
      go_at_call 60
      refine cB.mono ?_
      rintro e w4 ⟨rfl, hm4, hg4⟩
      have hAV' : (Value.slice (some ⟨g, 0, none⟩) rs.length cv).ownBlock = none ∨ (Value.slice (some ⟨g, 0, none⟩) rs.length cv).ownBlock ≠ (Value.slice ya ym yc).ownBlock := by
        have := HAV
        rw [hsh] at this
        exact this
      have ho4 := World.ownsRow.kept ho3 hg4 hAV'
      have HM4 : Hid (MkB w4 base rs m (k + 1)) := by
        intro i h hi
        by_cases e : i = k
        · subst e
          rw [hT0, hsh]
          exact hm4
        · refine World.ownsRow.kept (HM3.out i h (by omega)) hg4 ?_
          have := HKi.out i h e
          rw [hsh] at this
          exact this
      have HO4 : Hid (OwB w4 base rs (k + 1)) := by
        intro i h hi
        obtain ⟨xs, hx⟩ := HO3.out i h (by omega)
        refine ⟨xs, World.ownsRow.kept hx hg4 ?_⟩
        have := HKi.out i h (by omega)
        rw [hsh] at this
        exact this
      have HK4 : Hid (KeptS (BlkS (.slice (some ⟨g, 0, none⟩) rs.length cv) rs) w w4) := HK3.out.grown hg4 (fun j e => HBk.out j (by rw [hsh]; exact e))
      clear HM3 HO3 HK3 ho3 hok3 hm4 hg4 cB
      go_wp2
      go_roundw
      case rel => exact ⟨k + 1, by omega, by go_num, rfl, ho4, HM4, HO4, HK4⟩
      case measure => simp [intOf]; omega
    · have hkl : k = rs.length := by omega
      subst hkl
      have HM2 := HM.out
      have HK2 := HK.out
      rw [List.drop_length] at hrow
      simp only [csR, List.flatMap_nil, List.append_nil] at hrow
      rw [List.take_length] at hrow
      have HE : Hid (totR (rs.take rs.length) = totR rs) := by show _ = _; rw [List.take_length]
      go_wp2
      go_ret
      exact ⟨by rw [← HE.out]; rfl, hrow, HM2, HK2⟩
end Go.Proofs.Ytmappmboedpgmaq.Wk
