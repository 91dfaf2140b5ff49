/- What the laws' helpers for files come to: szFile, toFile. -/
import Derived.Test.YtpejeoekpejblapFlT
import Derived.Test.YtpejeoekpejblapByW
import Derived.Test.YtpejeoekpejblapToSt
import Derived.Test.YtpejeoekpejblapEqSt
namespace Go.Proofs.Ytpejeoekpejblap.Wk
set_option linter.unusedVariables false
open Go.ChangeShapes Go.WideShapes Go.ChangeAt Go.RowKit

theorem grown1 (w : World) (o : Obj) (r : Option Nat) : w.grownBy (w.alloc o) r := World.grownBy_alloc w o r
/-- what is left of a size -/
def left (m k : Nat) : Int := if k ≤ m then (m : Int) - k else -1
theorem szBy (a : Option Addr) (k cap m : Nat) (w : World) (hk : k ≤ maxLen) (hm : m ≤ 1048576) :
    Calls Try.prog 30 #[.slice a k cap, .int .i64 m] w fun e w' => e = .returned (.int .i64 (left m k)) ∧ w' = w := by
  unfold maxLen at hk
  unfold left
  by_cases h : k ≤ m
  · rw [if_pos h]
    go_enter Try.func30, Try.ntmps30
    go_wp2
    go_ret
    exact ⟨rfl, rfl⟩
  · rw [if_neg h]
    go_enter Try.func30, Try.ntmps30
    go_wp2
    go_ret
    exact ⟨rfl, rfl⟩

set_option maxHeartbeats 1000000 in
set_option maxRecDepth 100000 in
theorem szFl (t q n : Int) (d : Bool) (a : Option Addr) (k cap m : Nat) (w : World) (hk : k ≤ maxLen) (hm : m ≤ 1048576) :
    Calls Try.prog 14 #[.agg #[.int .i64 t, .int .i64 q, .int .i64 n, .bool d, .slice a k cap], .int .i64 m] w fun e w' => e = .returned (.int .i64 (left m k)) ∧ Below w.heap.size w w' := by
  have b0 := bel1 w (.cells #[.int .i64 t, .int .i64 q, .int .i64 n, .bool d, .slice a k cap] 37)
  have cS := fun w => szBy a k cap m w hk hm
  by_cases h : k ≤ m
  · have e : left m k = (m : Int) - k := if_pos h
    rw [e] at cS ⊢
    go_enter Try.func14, Try.ntmps14
    go_wp2_with fail
    refine (cS _).mono ?_
    rintro e w2 ⟨rfl, hw2⟩
    subst hw2
    go_wp2
    go_ret
    exact ⟨rfl, b0⟩
  · have e : left m k = -1 := if_neg h
    rw [e] at cS ⊢
    go_enter Try.func14, Try.ntmps14
    go_wp2_with fail
    refine (cS _).mono ?_
    rintro e w2 ⟨rfl, hw2⟩
    subst hw2
    go_wp2
    go_ret
    exact ⟨rfl, b0⟩

set_option maxHeartbeats 4000000 in
set_option maxRecDepth 100000 in
theorem toFl (t q n : Int) (d : Bool) (a : Option Addr) (cap : Nat) (l : List UInt8) (w : World) (hl : l.length ≤ 1048576) (hr : RdA w a l) :
    Calls Try.prog 16 #[.agg #[.int .i64 t, .int .i64 q, .int .i64 n, .bool d, .slice a l.length cap]] w fun e w' => ∃ g : Nat, e = .returned (.agg #[.int .i64 t, .int .i64 q, .int .i64 n, .bool d, .slice (some ⟨g, 0, none⟩) l.length l.length]) ∧
      OwnB w' w.heap.size (.slice (some ⟨g, 0, none⟩) l.length l.length) l ∧ Below w.heap.size w w' := by
  have s0 := slot5fNew w (.int .i64 t) (.int .i64 q) (.int .i64 n) (.bool d) (.slice a l.length cap) 37
  have b0 := bel1 w (.cells #[.int .i64 t, .int .i64 q, .int .i64 n, .bool d, .slice a l.length cap] 37)
  have e0 : (w.alloc (.cells #[.int .i64 t, .int .i64 q, .int .i64 n, .bool d, .slice a l.length cap] 37)).heap.size = w.heap.size + 1 := by simp
  have s1 := slot5fNew (w.alloc (.cells #[.int .i64 t, .int .i64 q, .int .i64 n, .bool d, .slice a l.length cap] 37)) (.int .i64 0) (.int .i64 0) (.int .i64 0) (.bool false) (.slice none 0 0) 26
  have b1 := bel1 (w.alloc (.cells #[.int .i64 t, .int .i64 q, .int .i64 n, .bool d, .slice a l.length cap] 37)) (.cells #[.int .i64 0, .int .i64 0, .int .i64 0, .bool false, .slice none 0 0] 26)
  have e1 : ((w.alloc (.cells #[.int .i64 t, .int .i64 q, .int .i64 n, .bool d, .slice a l.length cap] 37)).alloc (.cells #[.int .i64 0, .int .i64 0, .int .i64 0, .bool false, .slice none 0 0] 26)).heap.size = w.heap.size + 1 + 1 := by simp
  have s2 := slot5fNew ((w.alloc (.cells #[.int .i64 t, .int .i64 q, .int .i64 n, .bool d, .slice a l.length cap] 37)).alloc (.cells #[.int .i64 0, .int .i64 0, .int .i64 0, .bool false, .slice none 0 0] 26)) (.int .i64 0) (.int .i64 0) (.int .i64 0) (.bool false) (.slice none 0 0) 26
  have b2 := bel1 ((w.alloc (.cells #[.int .i64 t, .int .i64 q, .int .i64 n, .bool d, .slice a l.length cap] 37)).alloc (.cells #[.int .i64 0, .int .i64 0, .int .i64 0, .bool false, .slice none 0 0] 26)) (.cells #[.int .i64 0, .int .i64 0, .int .i64 0, .bool false, .slice none 0 0] 26)
  rw [e1] at s2
  rw [e0] at s1
  have t1 := s1.below (by rw [e1]; rw [e1] at b2; exact b2)
  have t0 := (s0.below b1).below b2
  have B2 := behind (behind b0 b1) b2
  clear s0 s1 b0 b1 b2 e0 e1
  go_enter Try.func16, Try.ntmps16
  go_wp2_with fail
  generalize (((w.alloc (.cells #[.int .i64 t, .int .i64 q, .int .i64 n, .bool d, .slice a l.length cap] 37)).alloc (.cells #[.int .i64 0, .int .i64 0, .int .i64 0, .bool false, .slice none 0 0] 26)).alloc (.cells #[.int .i64 0, .int .i64 0, .int .i64 0, .bool false, .slice none 0 0] 26)) = W at s2 t0 t1 B2 ⊢
  have hr3 := hr.below B2
  refine (toSt t q n _).mono ?_
  rintro e w2 ⟨rfl, hb2⟩
  have u0 := t0.below hb2
  have u1 := t1.below hb2
  have u2 := s2.below hb2
  have B3 := behind B2 hb2
  have hr4 := hr3.below hb2
  clear s2 t0 t1 B2 hr3 hb2
  obtain ⟨⟨x0, x1, x2, x3, x4⟩, -⟩ := (show _ from u0)
  obtain ⟨⟨z0, z1, z2, z3, z4⟩, y0, y1, y2, y3, y4⟩ := (show _ from u2)
  go_wp2_with fail
  have v2 := (((u2.put0 (.int .i64 t)).put1 (.int .i64 q)).put2 (.int .i64 n)).put3 (.bool d)
  have v1 := (((u1.other (c := w.heap.size + 1 + 1) (o := 0) (x := .int .i64 t) (by omega)).other (c := w.heap.size + 1 + 1) (o := 1) (x := .int .i64 q) (by omega)).other (c := w.heap.size + 1 + 1) (o := 2) (x := .int .i64 n) (by omega)).other (c := w.heap.size + 1 + 1) (o := 3) (x := .bool d) (by omega)
  have B4 := (((B3.setCell (p := ⟨w.heap.size + 1 + 1, 0, none⟩) (by show w.heap.size ≤ w.heap.size + 1 + 1; omega) (.int .i64 t)).setCell (p := ⟨w.heap.size + 1 + 1, 1, none⟩) (by show w.heap.size ≤ w.heap.size + 1 + 1; omega) (.int .i64 q)).setCell (p := ⟨w.heap.size + 1 + 1, 2, none⟩) (by show w.heap.size ≤ w.heap.size + 1 + 1; omega) (.int .i64 n)).setCell (p := ⟨w.heap.size + 1 + 1, 3, none⟩) (by show w.heap.size ≤ w.heap.size + 1 + 1; omega) (.bool d)
  clear x0 x1 x2 x3 x4 z0 z1 z2 z3 z4 y0 y1 y2 y3 y4 u0 u1 u2 B3 hr4
  generalize ((((w2.setCell ⟨w.heap.size + 1 + 1, 0, none⟩ (.int .i64 t)).setCell ⟨w.heap.size + 1 + 1, 1, none⟩ (.int .i64 q)).setCell ⟨w.heap.size + 1 + 1, 2, none⟩ (.int .i64 n)).setCell ⟨w.heap.size + 1 + 1, 3, none⟩ (.bool d)) = w3 at v1 v2 B4 ⊢
  refine (toByteS a cap l w3 hl (hr.below B4)).mono ?_
  rintro e w4 ⟨rfl, ho4, hb4⟩
  have B5 := behind B4 hb4
  obtain ⟨⟨x0, x1, x2, x3, x4⟩, f0, f1, f2, f3, f4⟩ := v1.below hb4
  have s4 := v2.below hb4
  obtain ⟨⟨z0, z1, z2, z3, z4⟩, y0, y1, y2, y3, y4⟩ := (show _ from s4)
  have hwv := v2.lt
  have hB3 := B4.size
  clear v1 v2
  go_wp2
  obtain ⟨r0, r1, r2, r3, r4⟩ := ((show Slot5f w4 (w.heap.size + 1) _ _ _ _ _ from ⟨⟨x0, x1, x2, x3, x4⟩, f0, f1, f2, f3, f4⟩).other (c := w.heap.size + 1 + 1) (o := 4) (x := .slice (some ⟨w3.heap.size, 0, none⟩) l.length l.length) (by omega)).set (.int .i64 t) (.int .i64 q) (.int .i64 n) (.bool d) (.slice (some ⟨w3.heap.size, 0, none⟩) l.length l.length) |>.1
  refine bodyPost_ret (v := .agg #[.int .i64 t, .int .i64 q, .int .i64 n, .bool d, .slice (some ⟨w3.heap.size, 0, none⟩) l.length l.length]) (by simp [results, Try.results16, go_sem, r0, r1, r2, r3, r4]) rfl ⟨_, rfl, ?_, ?_⟩
  · have k1 : w.heap.size + 1 + 1 < w3.heap.size := hwv
    have k2 : w.heap.size + 1 < w3.heap.size := by omega
    exact ownBase (ownsRow_setCell_below (ownsRow_setCell_below (ownsRow_setCell_below (ownsRow_setCell_below (ownsRow_setCell_below (ownsRow_setCell_below ho4 (a := ⟨w.heap.size + 1 + 1, 4, none⟩) k1 _) (a := ⟨w.heap.size + 1, 0, none⟩) k2 _) (a := ⟨w.heap.size + 1, 1, none⟩) k2 _) (a := ⟨w.heap.size + 1, 2, none⟩) k2 _) (a := ⟨w.heap.size + 1, 3, none⟩) k2 _) (a := ⟨w.heap.size + 1, 4, none⟩) k2 _) hB3
  · exact set5 (B5.setCell (p := ⟨w.heap.size + 1 + 1, 4, none⟩) (by show w.heap.size ≤ w.heap.size + 1 + 1; omega) _) (by omega) _ _ _ _ _

set_option maxHeartbeats 2000000 in
set_option maxRecDepth 100000 in
theorem eqFl (t q n : Int) (d : Bool) (a b : Option Addr) (ca cb : Nat) (l : List UInt8) (w : World) (hl : l.length ≤ 1048576) (hr : RdA w a l) (hs : RdA w b l) :
    Calls Try.prog 9 #[.agg #[.int .i64 t, .int .i64 q, .int .i64 n, .bool d, .slice a l.length ca], .agg #[.int .i64 t, .int .i64 q, .int .i64 n, .bool d, .slice b l.length cb]] w fun e w' => e = .returned (.bool true) ∧ Below w.heap.size w w' := by
  have s0 := slot5fNew w (.int .i64 t) (.int .i64 q) (.int .i64 n) (.bool d) (.slice a l.length ca) 26
  have b0 := bel1 w (.cells #[.int .i64 t, .int .i64 q, .int .i64 n, .bool d, .slice a l.length ca] 26)
  have e0 : (w.alloc (.cells #[.int .i64 t, .int .i64 q, .int .i64 n, .bool d, .slice a l.length ca] 26)).heap.size = w.heap.size + 1 := by simp
  have s1 := slot5fNew (w.alloc (.cells #[.int .i64 t, .int .i64 q, .int .i64 n, .bool d, .slice a l.length ca] 26)) (.int .i64 t) (.int .i64 q) (.int .i64 n) (.bool d) (.slice b l.length cb) 26
  have b1 := bel1 (w.alloc (.cells #[.int .i64 t, .int .i64 q, .int .i64 n, .bool d, .slice a l.length ca] 26)) (.cells #[.int .i64 t, .int .i64 q, .int .i64 n, .bool d, .slice b l.length cb] 26)
  rw [e0] at s1
  have t0 := s0.below b1
  have B1 := behind b0 b1
  clear s0 b0 b1 e0
  go_enter Try.func9, Try.ntmps9
  go_wp2_with fail
  refine (eqSt t q n _).mono ?_
  rintro e w2 ⟨rfl, hb2⟩
  obtain ⟨⟨x0, x1, x2, x3, x4⟩, -⟩ := t0.below hb2
  obtain ⟨⟨z0, z1, z2, z3, z4⟩, -⟩ := s1.below hb2
  have B2 := behind B1 hb2
  go_wp2_with fail
  refine (eqByteS a b ca cb l w2 (by omega) (hr.below B2) (hs.below B2)).mono ?_
  rintro e w3 ⟨rfl, m, rfl⟩
  go_wp2
  go_ret
  exact ⟨rfl, belowDrewN B2 m⟩
set_option maxHeartbeats 2000000 in
set_option maxRecDepth 100000 in
theorem markFl (t q n : Int) (d : Bool) (base g cap m k0 : Nat) (xs : List Value) (w : World) (hn : m ≤ 1073741824) (hk0 : k0 ≤ 1073741824) (hbw : base ≤ w.heap.size) (ho : w.ownsRow base 5 1 (.slice (some ⟨g, 0, none⟩) m cap) m xs) :
    Calls Try.prog 12 #[.agg #[.int .i64 t, .int .i64 q, .int .i64 n, .bool d, .slice (some ⟨g, 0, none⟩) m cap], .int .i64 k0] w fun e w' => e = .returned (.int .i64 ((k0 : Int) + (m : Int))) ∧
      w'.ownsRow base 5 1 (.slice (some ⟨g, 0, none⟩) m cap) m (mks k0 m) ∧ w.grownBy w' (some g) := by
  have b0 := bel1 w (.cells #[.int .i64 t, .int .i64 q, .int .i64 n, .bool d, .slice (some ⟨g, 0, none⟩) m cap] 26)
  have ho0 := ownBelow ho b0
  have cM := markByteS base g cap m k0 xs _ hn hk0 ho0
  go_enter Try.func12, Try.ntmps12
  go_wp2_with fail
  refine cM.mono ?_
  rintro e w2 ⟨rfl, ho2, hg2⟩
  go_wp2
  go_ret
  exact ⟨rfl, ho2, grownBy_trans (grown1 w _ _) hg2⟩
set_option maxHeartbeats 2000000 in
set_option maxRecDepth 100000 in
theorem heldFl (t q n : Int) (d : Bool) (base g cap m k0 : Nat) (w : World) (hn : m ≤ 1073741824) (hk0 : k0 ≤ 1073741824) (ho : w.ownsRow base 5 1 (.slice (some ⟨g, 0, none⟩) m cap) m (mks k0 m)) :
    Calls Try.prog 13 #[.agg #[.int .i64 t, .int .i64 q, .int .i64 n, .bool d, .slice (some ⟨g, 0, none⟩) m cap], .int .i64 k0] w fun e w' => e = .returned (.int .i64 ((k0 : Int) + (m : Int))) ∧ Below w.heap.size w w' := by
  have b0 := bel1 w (.cells #[.int .i64 t, .int .i64 q, .int .i64 n, .bool d, .slice (some ⟨g, 0, none⟩) m cap] 26)
  have ho0 := ownBelow ho b0
  have cM := heldByteS base g cap m k0 _ hn hk0 ho0
  go_enter Try.func13, Try.ntmps13
  go_wp2_with fail
  refine cM.mono ?_
  rintro e w2 ⟨rfl, hw2⟩
  subst hw2
  go_wp2
  go_ret
  exact ⟨rfl, b0⟩
end Go.Proofs.Ytpejeoekpejblap.Wk
