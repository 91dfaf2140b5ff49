/- What strings.Split at one byte comes to, where the library's variable MaxLen holds some int. -/
import Derived.Test.YtekjnfkmjmmcmabGreatDoorPcS
import Derived.Test.YtekjnfkmjmmcmabGreatDoorStB
import Derived.Test.YtekjnfkmjmmcmabGreatDoorShelf
namespace Go.Proofs.YtekjnfkmjmmcmabGreatDoor.Wk
set_option linter.unusedVariables false
open Go.ChangeShapes Go.WideShapes Go.ChangeAt Go.RowKit

/-- the library's variable MaxLen holds some int -/
def MaxD (w : World) : Prop := ∃ m, w.cell? ⟨2, 0, none⟩ = some (.int .i64 m)
theorem MaxD.on {w w' : World} (h : MaxD w) (hb : Below w.heap.size w w') : MaxD w' := by
  obtain ⟨m, hm⟩ := h
  exact ⟨m, by rw [hb.cell (World.block_lt_of_cell? w _ hm)]; exact hm⟩
theorem sbC_eq (d : UInt8) (s : ByteArray) : Lib.splitB ⟨#[d]⟩ 0 (Lib.countB s ⟨#[d]⟩) s = (Pc.pieces d s.data.toList).map fun p => ⟨p.toArray⟩ := by
  have h := Lib.splitB_data ⟨#[d]⟩ 0 (Lib.countB s ⟨#[d]⟩) s
  have e : Lib.splitK [d] 0 (Lib.count s.data.toList [d]) s.data.toList = Pc.pieces d s.data.toList := Pc.split_pieces d _ _ rfl
  rw [show Lib.splitK (⟨#[d]⟩ : ByteArray).data.toList 0 (Lib.countB s ⟨#[d]⟩) s.data.toList = Pc.pieces d s.data.toList from e] at h
  rw [← h, List.map_map]
  have id' : ((fun p : List UInt8 => (⟨p.toArray⟩ : ByteArray)) ∘ fun x : ByteArray => x.data.toList) = id := by funext x; rfl
  rw [id', List.map_id]
theorem splitD (d : UInt8) (s : ByteArray) (w : World) (hs : s.size ≤ 1048576) (hm : MaxD w) :
    Calls Tryz.prog 32 #[.string s, .string ⟨#[d]⟩] w fun e w' => e = .returned (.slice (some ⟨w.heap.size, 0, none⟩) (Pc.pieces d s.data.toList).length (Pc.pieces d s.data.toList).length) ∧ RdTC w' (some ⟨w.heap.size, 0, none⟩) (Pc.pieces d s.data.toList) ∧ Below w.heap.size w w' := by
  obtain ⟨m, hm⟩ := hm
  refine (Tryz.strings_Split s ⟨#[d]⟩ m w (by omega) hm (by simp [ByteArray.size])).mono ?_
  rintro e w' ⟨rfl, rfl⟩
  have hc : Lib.countB s ⟨#[d]⟩ + 1 = (Pc.pieces d s.data.toList).length := (Pc.count_pieces d s.data.toList).symm
  rw [sbC_eq, hc]
  refine ⟨rfl, ?_, bel1 _ _⟩
  intro i hi
  refine ⟨w.heap.size, 0, rfl, ?_⟩
  rw [Nat.zero_add, World.cell?_alloc_at _ _ _ _ rfl]
  simp [hi]
end Go.Proofs.YtekjnfkmjmmcmabGreatDoor.Wk
