/- What WriteName, RemoveName and SyncName share: whether the new lists stand, bounds, the end of a call. -/
import Derived.Test.YtmappmboedpgmaqNeS
import Derived.Test.YtmappmboedpgmaqNwB
import Derived.Deep.CutBlock
import Derived.Deep.DeepCutAuto
namespace Go.Proofs.Ytmappmboedpgmaq.Wk
set_option linter.unusedVariables false
open Go.ChangeShapes Go.WideShapes Go.ChangeAt Go.RowKit

/-- whether l1 may take the place of what stood beside l2 -/
noncomputable def endsOk (l1 l2 : List Nd) (s : ByteArray) (o1 o2 : List Nd) : Bool := (listOk l1 && listOk l2) && Nm.name s.data.toList && (listOk o1 && listOk o2)
theorem put_bounds {l : List Nd} {x : Nd} (h : listOk l = true) (hz : NdZ l) (h1 : x.1.size ≤ 1048576) (h2 : x.2.length ≤ 1048576) : NdZ (putR l x) := by
  have h60 := ((listOk_iff l).1 h).2.2
  refine ⟨Nat.le_trans (putR_len l x) (by omega), fun y hy => ?_⟩
  rcases mem_put_any hy with rfl | hy
  · exact ⟨h1, h2⟩
  · exact hz.2 y hy
theorem cut_bounds {l : List Nd} {s : ByteArray} (hz : NdZ l) : NdZ (cutR l s) :=
  ⟨Nat.le_trans (List.length_filter_le _ _) hz.1, fun y hy => hz.2 y (mem_cut.1 hy).2⟩
theorem bysPut {w : World} {rs : List Rw} {x : Rw} (h : BysR w rs) (hx : RdV w x.2.1 x.2.2) : BysR w (putR rs x) := by
  intro r hr
  rcases mem_put_any hr with rfl | hr
  · exact hx
  · exact h r hr
theorem RdV.far {w : World} {base b o : Nat} {u v : Value} {p : List UInt8} (h : OwnB w base u p) (hlt : b < base) : RdV (w.setCell ⟨b, o, none⟩ v) u p := rdV_own (ownFarB h hlt)
theorem rise_rows {rs : List Rw} {l : List Nd} (e : nds rs = l) (h : listOk l = true) : rise rs := rise_nds.1 (by rw [e]; exact ((listOk_iff l).1 h).1)

/-- the end of a call that answers a disk and whether: the answer's box is written -/
theorem DkAns.set {w wE w6 : World} {ok : Bool} {b : Nat} {a1 a2 : Option Addr} {c1 c2 : Nat} {l1 l2 : List Nd} {r1 r2 : List Rw} (hB : Below w.heap.size w w6) (OD : OwnD w6 wE.heap.size (.slice a1 l1.length c1) (.slice a2 l2.length c2) r1 r2) (e1 : nds r1 = l1) (e2 : nds r2 = l2)
    (hb : w.heap.size ≤ b) (hlt : b < wE.heap.size) (hle : w.heap.size ≤ wE.heap.size) : DkAns w ok l1 l2 (.returned (.tuple #[.agg #[.slice a1 l1.length c1, .slice a2 l2.length c2], .bool ok])) ((w6.setCell ⟨b, 0, none⟩ (.slice a1 l1.length c1)).setCell ⟨b, 1, none⟩ (.slice a2 l2.length c2)) :=
  ⟨a1, a2, c1, c2, r1, r2, rfl, ((OD.far hlt).far hlt).base hle, e1, e2, setBelow hB hb _ _⟩
end Go.Proofs.Ytmappmboedpgmaq.Wk
