/- What ZonesOf of the program comes to. -/
import Derived.Test.YtcejeiakgmamdacZnM
import Derived.Test.YtcejeiakgmamdacShelfZ
import Derived.Maps.OwnOps
import Derived.Maps.OwnSet
import Derived.Shelf.AbstractIn
namespace Go.Proofs.Ytcejeiakgmamdac.Wk
set_option linter.unusedVariables false
open Go.ChangeShapes Go.WideShapes Go.ChangeAt Go.RowKit Go.Maps Go.Sort Go.Shelf

theorem lawZ : Keyed Try.prog 3 := int_keyed Try.underlying3
theorem zeroZ (w : World) : (zeroValue 3).run Try.prog w = .ok (.int .i64 0) w := by kernel_rfl
theorem keysOfZ {H : Type} {R : Value → Option (DataW H × List MemPlace)} {w : World} {b n : Nat} {D : DataW H} (hown : w.ownsMap Try.prog 3 R b n D) :
    (intKeys D).Nodup ∧ (∀ x, x ∈ intKeys D ↔ Maps.has D (.int .i64 x) = true) ∧ (intKeys D).length ≤ n := by
  have hsz := hown.size_le
  obtain ⟨es, hD, hpw, _⟩ := hown.entries lawZ
  obtain ⟨es', hD', hko⟩ := hown.keysOf
  obtain rfl : es = es' := by rw [hD] at hD'; simpa using hD'
  subst hD
  have hk : ∀ p ∈ es, ∃ x, p.1 = .int .i64 x := fun p hp => by
    obtain ⟨v, hv⟩ := hko p hp
    obtain ⟨x, _, hx, _⟩ := Maps.keyOf_i64 Try.underlying3 hv
    exact ⟨x, hx⟩
  refine ⟨?_, fun x => ?_, ?_⟩
  · show (es.map fun p => Go.intOf p.1).Nodup
    refine List.pairwise_map.2 (hpw.imp_of_mem fun {p q} hp' hq' hne e => hne ?_)
    obtain ⟨a, ha⟩ := hk p hp'
    obtain ⟨b, hb⟩ := hk q hq'
    rw [ha, hb] at e ⊢
    exact congrArg _ e
  · rw [Maps.has_eq, List.any_eq_true]
    show x ∈ es.map (fun p => Go.intOf p.1) ↔ _
    rw [List.mem_map]
    constructor
    · rintro ⟨p, hp', rfl⟩
      obtain ⟨a, ha⟩ := hk p hp'
      exact ⟨p, hp', by rw [ha]; simp [Lit.sameKey, Go.intOf]⟩
    · rintro ⟨p, hp', hs⟩
      obtain ⟨a, ha⟩ := hk p hp'
      rw [ha] at hs
      exact ⟨p, hp', by rw [ha]; simpa [Lit.sameKey, Go.intOf] using hs⟩
  · show (es.map fun p => Go.intOf p.1).length ≤ n
    rw [List.length_map]
    exact hsz
/-- the keys, sorted, are the zones -/
theorem zonesOfKeys {l : List Sm.St} {ks ss : List Int} (hnd : ks.Nodup) (hm : ∀ x, x ∈ ks ↔ ∃ d ∈ l, d.2.1 = x) (hl : ks.length ≤ l.length) (hp : ss.Perm ks) : Dv.Zs l (ss.mergeSort fun x y => decide (x ≤ y)) := by
  have hP := (List.mergeSort_perm ss fun x y => decide (x ≤ y)).trans hp
  refine ⟨?_, fun z => hP.mem_iff.trans (hm z), by rw [hP.length_eq]; exact hl⟩
  have h1 := List.pairwise_mergeSort (le := fun x y : Int => decide (x ≤ y)) (fun a b c h1 h2 => by simp only [decide_eq_true_eq] at *; omega) (fun a b => by simp only [Bool.or_eq_true, decide_eq_true_eq]; omega) ss
  have h2 : (ss.mergeSort fun x y => decide (x ≤ y)).Nodup := hP.nodup_iff.2 hnd
  refine (h1.and h2).imp fun {a b} h => ?_
  have e1 := h.1
  have e2 := h.2
  simp only [decide_eq_true_eq] at e1
  omega

set_option maxHeartbeats 1000000 in
set_option maxRecDepth 100000 in
theorem implZonesIn (a : Option Addr) (cap : Nat) (l : List Sm.St) (w : World) (hl : l.length ≤ 1048576) (hr : RdS w a l) (hwf : ∀ d ∈ l, (Lit.int .i64 d.2.1).wf = true) :
    Calls Try.prog 44 #[.slice a l.length cap] w fun e w' => ∃ D : DataW Unit, e = .returned (.map (some w.heap.size)) ∧ w'.ownsMap Try.prog 3 (plainElem Try.prog 3) w.heap.size l.length D ∧
      (∀ z, Maps.has D (.int .i64 z) = true ↔ ∃ d ∈ l, d.2.1 = z) ∧ Below w.heap.size w w' := by
  have hmm := @run_makeMap Try.prog
  go_enter Try.func44, Try.ntmps44
  go_wp2
  go_loopw [9] (fun i wr => ∃ (k : Nat) (D : DataW Unit), k ≤ l.length ∧ i = .int .i64 k ∧ wr.ownsMap Try.prog 3 (plainElem Try.prog 3) w.heap.size k D ∧ Hid (∀ z, Maps.has D (.int .i64 z) = true ↔ ∃ d ∈ l.take k, d.2.1 = z) ∧ Below w.heap.size w wr) (fun i _ => l.length - (intOf i).toNat)
  case atStart => exact ⟨0, .map [], Nat.zero_le _, rfl, World.ownsMap_made _ _ _ _, by show ∀ z, _ ↔ _; intro z; simp [Maps.has_eq], bel1 _ _⟩
  case round =>
    obtain ⟨k, D, hk, rfl, hown, HM, hb⟩ := hrel
    clear hmm
    by_cases hlt : k < l.length
    · obtain ⟨b, off, rfl, p⟩ := (hr.below hb) k hlt
      have hw := hwf _ (List.getElem_mem hlt)
      have HN : Hid (∀ (d : DataW Unit) z, Maps.has (D.put (.int .i64 l[k].2.1) d) (.int .i64 z) = true ↔ ∃ d ∈ l.take (k + 1), d.2.1 = z) := by
        show ∀ (d : DataW Unit) z, _ ↔ _
        intro d z
        rw [Dv.take_mem hlt, ← HM.out z]
        by_cases e : l[k].2.1 = z
        · rw [e]
          simp [Maps.has_put_same (k := .int .i64 z) hown.isMap trivial d]
        · rw [Maps.has_put_other (by simpa using fun h => e h.symm) d]
          simp [e]
      obtain ⟨u, hu⟩ : ∃ u, l[k] = u := ⟨_, rfl⟩
      rw [hu] at p hw HN
      obtain ⟨i, z, n⟩ := u
      obtain ⟨p0, p1, p2⟩ := (show _ from p)
      dsimp only at p0 p1 p2 hw HN
      have hkey : keyOf Try.prog 3 (.int .i64 z) = some (.int .i64 z) := keyOf_int_mk Try.underlying3 hw
      have hown' := hown.alloc (.cells #[.int .i64 i, .int .i64 z, .int .i64 n] 42)
      have hB := behind hb (bel1 wr (.cells #[.int .i64 i, .int .i64 z, .int .i64 n] 42))
      clear hu p HM hw hr hown
      go_wp2_with (first
        | (at_lookup; refine wpList_lookup_own_int _ rfl _ _ 71 rfl 3 3 .i64 lawZ Try.underlying71 Try.underlying3 (zeroZ _) w.heap.size k _ rfl hown' _ _ rfl hkey ?_; intro c hat hwc)
        | (at_mapUpdate; refine wpList_mapUpdate_own _ rfl _ _ _ 71 rfl 3 3 lawZ Try.underlying71 _ w.heap.size k _ rfl hown' (by unfold maxLen; omega) _ _ _ rfl rfl hkey _ [] (plainElem_int Try.underlying3 (wrap64_wf _)) ?_; intro w1 hown1 hgrow1))
      go_roundw
      case rel => exact ⟨k + 1, _, by omega, by go_num, hown1, fun z => HN.out _ z, hB.grown hgrow1 hB.size (fun j hj => by cases hj; exact Nat.le_refl _)⟩
      case measure => simp [intOf]; omega
    · have hkl : k = l.length := by omega
      subst hkl
      have HE := HM.out
      rw [List.take_length] at HE
      clear HM
      go_wp2
      go_ret
      exact ⟨D, rfl, hown, HE, hb⟩

/-- slices.Sort's two contracts here -/
theorem sortsZ (m : Nat) : AnyZI.SortsIn Try.prog Try.sortedA_ren Fence.wide m :=
  ⟨fun blk off cap ss W hH hblk hsz => callsIn_wide.2 (AnyM.slices_Sort_int Try.sortA blk off cap ss W hH hblk hsz),
   fun p cap W => callsIn_wide.2 (AnyM.slices_Sort_int_none Try.sortA p cap W)⟩

set_option maxHeartbeats 1000000 in
set_option maxRecDepth 100000 in
theorem implZones (a : Option Addr) (cap : Nat) (l : List Sm.St) (w : World) (hl : l.length ≤ 1048576) (hr : RdS w a l) (hwf : ∀ d ∈ l, (Lit.int .i64 d.2.1).wf = true) :
    Calls Try.prog 13 #[.slice a l.length cap] w fun e w' => ∃ (R : List Int) (a' : Option Addr) (cp : Nat), e = .returned (.slice a' R.length cp) ∧ Dv.Zs l R ∧ w'.ownsRow w.heap.size 3 1 (.slice a' R.length cp) R.length (Zv R) ∧ Below w.heap.size w w' := by
  refine (callsIn_wide (n := 8)).1 ?_
  have cZ : CallsIn Fence.wide 7 Try.prog 44 #[.slice a l.length cap] w _ := callsIn_wide.2 (implZonesIn a cap l w hl hr hwf)
  have cK : ∀ mb W, CallsIn Fence.wide 7 Try.prog 43 #[.map mb] W fun e w' => e = .returned (.func (.func 77) #[] #[.pointer (some ⟨W.heap.size, 0, none⟩)]) ∧ w' = W.alloc (.cells #[.map mb] 71) := fun mb W => AnyZI.keys_in Try.keysA Fence.wide 7 trivial rfl mb W
  have cS : ∀ (b : Nat) (D : DataW Unit) (W : World), b < W.heap.size → W.ownsMap Try.prog 3 (plainElem Try.prog 3) b l.length D →
      CallsIn Fence.wide 7 Try.prog 42 #[.func (.func 77) #[] #[.pointer (some ⟨W.heap.size, 0, none⟩)]] (W.alloc (.cells #[.map (some b)] 71)) fun e w' => ∃ (v : Value) (ss : List Int), e = .returned v ∧ ss.Perm (intKeys D) ∧
        w'.ownsRow (W.alloc (.cells #[.map (some b)] 71)).heap.size 3 1 v ss.length ((ss.mergeSort (fun x y => decide (x ≤ y))).map encZ) ∧ (v = .slice none 0 0 ↔ ss = []) ∧ Below (W.alloc (.cells #[.map (some b)] 71)).heap.size (W.alloc (.cells #[.map (some b)] 71)) w' := by
    intro b D W hbl hown
    have hsz := hown.size_le
    have hseq : SeqGives Fence.wide 4 Try.prog 77 #[.pointer (some ⟨W.heap.size, 0, none⟩)] encZ (fun ss => ss.Perm (intKeys D)) (Maps.size D) (W.alloc (.cells #[.map (some b)] 71)) :=
      AnyZI.keys_gives (ρ := Try.keysA_ren) { Try.keysA with } Fence.wide _ trivial rfl (by omega) W.heap.size b l.length D _ (by simp) (by simp) (by
        obtain ⟨es, clock, hb, Ft, hs, hD⟩ := hown
        exact ⟨es, clock, (Below.heap_alloc _ _ b hbl).trans hb, Ft, hs, hD⟩)
    exact AnyZI.sorted_in Try.sortedA Fence.wide 7 trivial trivial trivial trivial rfl (by omega) (sortsZ _) (enters_of Try.func76 (by kernel_rfl) rfl) 77 #[.pointer (some ⟨W.heap.size, 0, none⟩)] trivial (enters_of Try.func77 (by kernel_rfl) rfl) _ _ (by unfold maxLen; omega) (by omega) _ hseq
  have hfZ : Fence.wide.fn 44 := trivial
  have hfK : Fence.wide.fn 43 := trivial
  have hfS : Fence.wide.fn 42 := trivial
  refine callsIn_of_wp Try.func13 rfl trivial ?_ rfl
  simp only [Try.ntmps13, List.size_toArray, List.length_cons, List.length_nil, Nat.reduceAdd, Nat.reduceSub, Array.replicate_succ, Array.replicate_zero, List.push_toArray, List.append_toArray, List.nil_append, List.cons_append]
  gi_wp2_with (first
    | (gi_at_call 44; refine cZ.mono ?_; rintro e w1 ⟨D, rfl, hown1, hm1, hb1⟩)
    | (gi_at_call 43; refine (cK _ _).mono ?_; rintro e w2 ⟨rfl, rfl⟩)
    | (gi_at_call 42; refine (cS _ D _ hown1.lt hown1).mono ?_; rintro e w3 ⟨v, ss, rfl, hS, hrow, hnil, hb3⟩))
  obtain ⟨k1, k2, k3⟩ := keysOfZ hown1
  have HZ := zonesOfKeys k1 (fun x => (k2 x).trans (hm1 x)) k3 hS
  have hlen : (ss.mergeSort fun x y => decide (x ≤ y)).length = ss.length := List.length_mergeSort ..
  have hrow' := ownsRow_base_a hrow (show w.heap.size ≤ _ from by have := hb1.size; simp; omega)
  rw [← hlen] at hrow'
  obtain ⟨a', cp, hv⟩ := Zv_shape hrow'
  subst hv
  go_ret
  exact ⟨_, a', cp, rfl, HZ, hrow', behind (behind hb1 (bel1 _ _)) hb3⟩
end Go.Proofs.Ytcejeiakgmamdac.Wk
