/- What ReadName and l9CopyList of the specification come to. -/
import Derived.Test.YtmappmboedpgmaqDkS
import Derived.Test.YtmappmboedpgmaqNdO
import Derived.Test.YtmappmboedpgmaqApB
import Derived.Deep.AppendLies
import Derived.Deep.RegionLaw
namespace Go.Proofs.Ytmappmboedpgmaq.Wk
set_option linter.unusedVariables false
open Go.ChangeShapes Go.WideShapes Go.ChangeAt Go.RowKit

/-- the bytes behind the name, none where it stands not -/
def ndRead (l : List Nd) (s : ByteArray) : List UInt8 := match ndAt l s with
  | some k => (l[k]?.map (·.2)).getD []
  | none => []
set_option maxHeartbeats 2000000 in
set_option maxRecDepth 100000 in
theorem specReadName (a1 a2 : Option Addr) (c1 c2 : Nat) (l1 l2 : List Nd) (s : ByteArray) (w : World) (h1 : l1.length ≤ 1048576) (z1 : ∀ x ∈ l1, x.2.length ≤ 1048576) (r1 : RdNd w a1 l1) :
    Calls Try.prog 38 #[.agg #[.slice a1 l1.length c1, .slice a2 l2.length c2], .string s] w fun e w' => ∃ a c, e = .returned (.tuple #[.slice a (ndRead l1 s).length c, .bool (ndAt l1 s).isSome]) ∧ OwnB w' w.heap.size (.slice a (ndRead l1 s).length c) (ndRead l1 s) ∧ Below w.heap.size w w' := by
  have b0 := bel1 w (.cells #[.slice a1 l1.length c1, .slice a2 l2.length c2] 28)
  obtain ⟨s0, s1⟩ := dboxNew w (.slice a1 l1.length c1) (.slice a2 l2.length c2) 28
  have r1' := r1.below b0
  have d1 := fun n => specAt a1 c1 l1 s ((w.alloc (.cells #[.slice a1 l1.length c1, .slice a2 l2.length c2] 28)).drewN n) h1 (r1'.drewN n)
  have hsz : (w.alloc (.cells #[.slice a1 l1.length c1, .slice a2 l2.length c2] 28)).heap.size = w.heap.size + 1 := World.size_alloc _ _
  cases hk : ndAt l1 s with
  | none =>
    have e1 : ndRead l1 s = [] := by unfold ndRead; rw [hk]
    rw [e1]
    rw [hk] at d1
    simp only [atN, Option.isSome_none, List.length_nil] at d1 ⊢
    go_enter Try.func38, Try.ntmps38
    go_wp2_with fail
    generalize w.alloc (.cells #[.slice a1 l1.length c1, .slice a2 l2.length c2] 28) = w1 at *
    go_at_call 25
    refine (d1 0).mono ?_
    rintro e w2 ⟨rfl, n, rfl⟩
    clear d1
    go_wp2
    refine bodyPost_ret (v := .tuple #[.slice (some ⟨w.heap.size + 1, 0, none⟩) 0 0, .bool false]) (by simp [results, Try.results38, go_sem]) rfl ⟨_, _, rfl, ?_, ?_⟩
    · have := emptyBy (w1.drewN n) w.heap.size (by show w.heap.size ≤ w1.heap.size; omega)
      rw [show (w1.drewN n).heap.size = w.heap.size + 1 from hsz] at this
      exact this
    · exact behind (show Below w.heap.size w (w1.drewN n) from ⟨b0.os, b0.tape, b0.output, b0.size, b0.block⟩) (bel1 (w1.drewN n) _)
  | some k =>
    obtain ⟨hkl, -⟩ := List.findIdx?_eq_some_iff_getElem.1 hk
    have e1 : ndRead l1 s = l1[k].2 := by unfold ndRead; rw [hk]; simp [hkl]
    rw [e1]
    rw [hk] at d1
    simp only [atN, Option.isSome_some] at d1 ⊢
    obtain ⟨b, off, ai, ci, rfl, c1', c2', hz, hcap, hnil⟩ := r1' k hkl
    have hpl := z1 l1[k] (List.getElem_mem hkl)
    generalize l1[k].2 = p at *
    go_enter Try.func38, Try.ntmps38
    go_wp2_with fail
    generalize w.alloc (.cells #[.slice (some ⟨b, off, none⟩) l1.length c1, .slice a2 l2.length c2] 28) = w1 at *
    go_at_call 25
    refine (d1 0).mono ?_
    rintro e w2 ⟨rfl, n, rfl⟩
    clear d1
    have b1 : Below w.heap.size w (w1.drewN n) := ⟨b0.os, b0.tape, b0.output, b0.size, b0.block⟩
    have b2 := bel1 (w1.drewN n) (.cells #[] 5)
    have hs2 : ((w1.drewN n).alloc (.cells #[] 5)).heap.size = w.heap.size + 1 + 1 := by rw [World.size_alloc]; exact congrArg (· + 1) hsz
    have s2 := cellNd (show (w1.drewN n).cell? _ = _ from s0) b2
    have c3 := cellNd (show (w1.drewN n).cell? _ = _ from c2') b2
    have z3 := RdA.below (show RdA (w1.drewN n) ai p from hz) b2
    have o3 := emptyBy (w1.drewN n) w.heap.size (by show w.heap.size ≤ w1.heap.size; omega)
    have hnk : ((k : Int) < 0) = False := by simp
    rw [show (w1.drewN n).heap.size = w.heap.size + 1 from hsz] at o3
    clear c1' c2' hz r1 r1' b0 s1
    go_wp2_with (at_builtin; refine wpList_appB _ rfl (.tmp 14) (.tmp 20) rfl w.heap.size _ [] rfl o3 ai ci p rfl z3 hnil (by simp; omega) (by omega) ?_; intro v7 w7 hown7 hg7; simp only [List.nil_append] at hown7; obtain ⟨a7, c7, rfl⟩ := By_shape hown7)
    refine bodyPost_ret (v := .tuple #[.slice a7 p.length c7, .bool true]) (by simp [results, Try.results38, go_sem]) rfl ⟨_, _, rfl, hown7, ?_⟩
    exact (behind b1 b2).grown hg7 (by omega) (fun j e => by cases e; exact Nat.le_succ _)
end Go.Proofs.Ytmappmboedpgmaq.Wk
