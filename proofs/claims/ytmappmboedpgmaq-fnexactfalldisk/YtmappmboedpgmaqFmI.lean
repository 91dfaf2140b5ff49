/- Maps of named bytes: what filesOf, names, list and follow of the program come to. -/
import Derived.Test.YtmappmboedpgmaqApR
import Derived.Test.YtmappmboedpgmaqDnS
import Derived.Test.YtmappmboedpgmaqShelfQ
import Derived.Maps.OwnOps
import Derived.Maps.OwnSet
import Derived.Shelf.AbstractIn
import Derived.Laws.MakeOwn
namespace Go.Proofs.Ytmappmboedpgmaq.Wk
set_option linter.unusedVariables false
open Go.ChangeShapes Go.WideShapes Go.ChangeAt Go.RowKit Go.Maps Go.Sort Go.Shelf

/-- an element of the map is told as it stands -/
def heldR (v : Value) : Option (DataW Value × List MemPlace) := some (.held v, [])
theorem lawN : Keyed Try.prog 9 := string_keyed Try.underlying9
theorem zeroN (w : World) : (zeroValue 57).run Try.prog w = .ok (.agg #[.string ⟨#[]⟩, .slice none 0 0]) w := by kernel_rfl
theorem keyN {s : ByteArray} (h : s.size ≤ 1048576) : keyOf Try.prog 9 (.string s) = some (keyL s) := Go.WideMaps.keyOf_string_mk Try.underlying9 (by unfold maxLen; omega)
def agR (rs : List Rw) : List (ByteArray × Value) := mapN (fun n x => .agg #[.string n, x.1]) rs
theorem agR_len (rs : List Rw) : (agR rs).length = rs.length := by simp [agR, mapN]
theorem agR_put (rs : List Rw) (r : Rw) : agR (putR rs r) = putR (agR rs) (r.1, .agg #[.string r.1, r.2.1]) := (putR_map (fun n (x : Value × List UInt8) => Value.agg #[.string n, x.1]) rs r).symm
theorem agR_cut (rs : List Rw) (s : ByteArray) : agR (cutR rs s) = cutR (agR rs) s := (cutR_map (fun n (x : Value × List UInt8) => Value.agg #[.string n, x.1]) rs s).symm
theorem rise_agR {rs : List Rw} : rise (agR rs) ↔ rise rs := rise_map _
theorem rfind_agR (rs : List Rw) (s : ByteArray) : rfind (agR rs) s = (rfind rs s).map fun x => .agg #[.string s, x.1] := rfind_map (fun n (x : Value × List UInt8) => Value.agg #[.string n, x.1]) rs s
/-- block b is a map that holds these rows -/
def Mp (w : World) (b n : Nat) (rs : List Rw) : Prop := w.ownsMap Try.prog 9 heldR b n (Dof (agR rs))
theorem mapOnN {w w' : World} {b n : Nat} {rs : List Rw} (h : Mp w b n rs) (hb : Below w.heap.size w w') : Mp w' b n rs :=
  World.ownsMap.kept (row := none) h ⟨hb.os, hb.tape, hb.output, hb.size, fun k hk _ => hb.block k hk⟩ (by simp)
theorem runMakeMapN (n : Nat) (w : World) : (Instr.makeMap 51 (some (.int .i64 (n : Int)))).run Try.prog w = .ok (.map (some w.heap.size)) (w.alloc (.map #[] 0)) := by
  simp [Instr.makeMap, run_underlying Try.underlying51, asInt, asIntOf]
theorem putAll_len : ∀ (l : List Rw), (putAll l).length ≤ l.length := by
  intro l
  suffices H : ∀ (l o : List Rw), (l.foldl putR o).length ≤ o.length + l.length from by simpa [putAll] using H l []
  intro l
  induction l with
  | nil => intro o; simp
  | cons x r ih =>
    intro o
    have h1 := ih (putR o x)
    have h2 := putR_len o x
    rw [List.foldl_cons, List.length_cons]
    omega

set_option maxHeartbeats 2000000 in
set_option maxRecDepth 100000 in
theorem implFilesOf (a : Option Addr) (ca : Nat) (rs : List Rw) (w : World) (hl : rs.length ≤ 2097152) (hs : ∀ r ∈ rs, r.1.size ≤ 1048576) (hr : RdR w a rs) (hy : BysR w rs) :
    Calls Try.prog 32 #[.slice a rs.length ca] w fun e w' => e = .returned (.map (some w.heap.size)) ∧ Mp w' w.heap.size rs.length (putAll rs) ∧ Below w.heap.size w w' := by
  have hmm := runMakeMapN rs.length w
  go_enter Try.func32, Try.ntmps32
  go_wp2
  clear hmm
  go_loopw [11] (fun i wr => ∃ k : Nat, k ≤ rs.length ∧ i = .int .i64 k ∧ wr.ownsMap Try.prog 9 heldR w.heap.size k (Dof (agR (putAll (rs.take k)))) ∧ Below w.heap.size w wr) (fun i _ => rs.length - (intOf i).toNat)
  case atStart => exact ⟨0, Nat.zero_le _, rfl, World.ownsMap_made _ _ _ _, bel1 _ _⟩
  case round =>
    obtain ⟨k, hk, rfl, hown, hb⟩ := hrel
    by_cases hlt : k < rs.length
    · have HS : Hid (∀ x : Value, x = .agg #[.string rs[k].1, rs[k].2.1] → (Dof (agR (putAll (rs.take k)))).put (keyL rs[k].1) (.held x) = Dof (agR (putAll (rs.take (k + 1))))) := by
        rintro x rfl
        rw [putAll_take hlt, agR_put]
        exact (Dof_put (rise_agR.2 (rise_putAll _)) (rs[k].1, .agg #[.string rs[k].1, rs[k].2.1])).symm
      obtain ⟨b, off, rfl, h1, h2⟩ := (hr.below hb) k hlt
      have hkey := keyN (hs rs[k] (List.getElem_mem hlt))
      have hsh := rdV_shape (hy rs[k] (List.getElem_mem hlt))
      generalize rs[k] = y at HS h1 h2 hkey hsh
      obtain ⟨yn, yu, yb⟩ := y
      dsimp only at HS h1 h2 hkey hsh
      obtain ⟨ya, ym, yc, rfl⟩ := hsh
      generalize Dof (agR (putAll (rs.take k))) = D at *
      have hown' := hown.alloc (.cells #[.string yn, .slice ya ym yc] 57)
      have hB := behind hb (bel1 wr (.cells #[.string yn, .slice ya ym yc] 57))
      clear hr hown
      go_wp2_with (at_mapUpdate; refine wpList_mapUpdate_own _ rfl _ _ _ 51 rfl 9 57 lawN Try.underlying51 heldR w.heap.size k D (by rfl) hown' (by unfold maxLen; omega) (.string yn) (.agg #[.string yn, .slice ya ym yc]) (keyL yn) (by rfl) (by rfl) hkey (.held (.agg #[.string yn, .slice ya ym yc])) [] rfl ?_; intro w1 hown1 hgrow1)
      rw [HS.out _ rfl] at hown1
      go_roundw
      case rel => exact ⟨k + 1, by omega, by go_num, hown1, hB.grown hgrow1 hB.size (fun j hj => by cases hj; exact Nat.le_refl _)⟩
      case measure => simp [intOf]; omega
    · have hkl : k = rs.length := by omega
      subst hkl
      rw [List.take_length] at hown
      go_wp2
      go_ret
      exact ⟨rfl, hown, hb⟩

/-- slices.Sort's two contracts here -/
theorem sortsN (m : Nat) : AnyZ.SortsIn Try.prog Try.sortedA_ren Fence.wide m :=
  ⟨fun blk off cap ss W hH hblk hsz => callsIn_wide.2 (AnyM.slices_Sort_string Try.sortA blk off cap ss W hH hblk hsz),
   fun p cap W => callsIn_wide.2 (AnyM.slices_Sort_string_none Try.sortA p cap W)⟩
theorem strs_shape {w : World} {base n S : Nat} {T : TypeId} {v : Value} {l : List Value} (h : w.ownsRow base T S v n l) : ∃ a c, v = .slice a n c := Nd_shape h

set_option maxHeartbeats 1000000 in
set_option maxRecDepth 100000 in
theorem implNames (b n : Nat) (rs : List Rw) (w : World) (hrise : rise rs) (hl : rs.length ≤ 2097152) (hm : Mp w b n rs) :
    Calls Try.prog 46 #[.map (some b)] w fun e w' => ∃ (a' : Option Addr) (cp : Nat), e = .returned (.slice a' rs.length cp) ∧ w'.ownsRow w.heap.size 9 1 (.slice a' rs.length cp) rs.length (rs.map fun r => .string r.1) ∧ Below w.heap.size w w' := by
  refine (callsIn_wide (n := 8)).1 ?_
  have hsz : Maps.size (Dof (agR rs)) = rs.length := by rw [Dof_size, agR_len]
  have cK : ∀ mb W, CallsIn Fence.wide 7 Try.prog 66 #[.map mb] W fun e w' => e = .returned (.func (.func 74) #[] #[.pointer (some ⟨W.heap.size, 0, none⟩)]) ∧ w' = W.alloc (.cells #[.map mb] 51) := fun mb W => AnyZ.keys_in Try.keysA Fence.wide 7 trivial rfl mb W
  have cS : CallsIn Fence.wide 7 Try.prog 65 #[.func (.func 74) #[] #[.pointer (some ⟨w.heap.size, 0, none⟩)]] (w.alloc (.cells #[.map (some b)] 51)) fun e w' => ∃ (v : Value) (ss : List (List UInt8)), e = .returned v ∧ ss.Perm (strKeys (Dof (agR rs))) ∧
        w'.ownsRow (w.alloc (.cells #[.map (some b)] 51)).heap.size 9 1 v ss.length ((ss.mergeSort (fun x y => decide (x ≤ y))).map encStr) ∧ (v = .slice none 0 0 ↔ ss = []) ∧ Below (w.alloc (.cells #[.map (some b)] 51)).heap.size (w.alloc (.cells #[.map (some b)] 51)) w' := by
    have hbl := hm.lt
    have hseq : SeqGives Fence.wide 4 Try.prog 74 #[.pointer (some ⟨w.heap.size, 0, none⟩)] encStr (fun ss => ss.Perm (strKeys (Dof (agR rs)))) (Maps.size (Dof (agR rs))) (w.alloc (.cells #[.map (some b)] 51)) :=
      AnyZ.keys_gives (ρ := Try.keysA_ren) { Try.keysA with } Fence.wide _ trivial rfl (by omega) w.heap.size b n (Dof (agR rs)) _ (by simp) (by simp) (by
        obtain ⟨es, clock, hb, Ft, hs, hD⟩ := hm
        exact ⟨es, clock, (Below.heap_alloc _ _ b hbl).trans hb, Ft, hs, hD⟩)
    exact AnyZ.sorted_in Try.sortedA Fence.wide 7 trivial trivial trivial trivial rfl (by omega) (sortsN _) (enters_of Try.func73 (by kernel_rfl) rfl) 74 #[.pointer (some ⟨w.heap.size, 0, none⟩)] trivial (enters_of Try.func74 (by kernel_rfl) rfl) _ _ (by rw [hsz]; unfold maxLen; omega) (by rw [hsz]; omega) _ hseq
  have hfK : Fence.wide.fn 66 := trivial
  have hfS : Fence.wide.fn 65 := trivial
  refine callsIn_of_wp Try.func46 rfl trivial ?_ rfl
  simp only [Try.ntmps46, List.size_toArray, List.length_cons, List.length_nil, Nat.reduceAdd, Nat.reduceSub, Array.replicate_succ, Array.replicate_zero, List.push_toArray, List.append_toArray, List.nil_append, List.cons_append]
  gi_wp2_with (first
    | (gi_at_call 66; refine (cK _ _).mono ?_; rintro e w2 ⟨rfl, rfl⟩)
    | (gi_at_call 65; refine cS.mono ?_; rintro e w3 ⟨v, ss, rfl, hS, hrow, hnil, hb3⟩))
  have hss := sort_keys (rise_agR.2 hrise) hS
  have hlen : ss.length = rs.length := by
    have := congrArg List.length hss
    simpa [List.length_mergeSort, agR_len] using this
  rw [hss] at hrow
  have hrow2 : (agR rs).map (fun x => x.1.data.toList) = rs.map fun r => r.1.data.toList := by simp [agR, mapN]
  rw [hrow2, hlen] at hrow
  have hrow3 : (rs.map fun r => r.1.data.toList).map encStr = rs.map fun r => .string r.1 := by simp [encStr]
  rw [hrow3] at hrow
  have hrow' := ownsRow_base_a hrow (show w.heap.size ≤ _ by simp)
  obtain ⟨av, cv, rfl⟩ := strs_shape hrow'
  go_ret
  exact ⟨av, cv, rfl, hrow', (bel1 w _).trans (hb3.mono (by simp))⟩
end Go.Proofs.Ytmappmboedpgmaq.Wk
