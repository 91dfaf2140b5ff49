/- What Crc of the specification and Crc of the program come to: the same number, crcN; nothing old is turned. -/
import Derived.Test.YtpejeoekpejbladBy
namespace Go.Proofs.Ytpejeoekpejblad.Wk
set_option linter.unusedVariables false
open Go.ChangeShapes Go.WideShapes Go.ChangeAt Go.RowKit

theorem rint {k : IntKind} {a b : Int} (h : a = b) : Ending.returned (.int k a) = .returned (.int k b) := by rw [h]
theorem vint {k : IntKind} {a b : Int} (h : a = b) : Value.int k a = .int k b := by rw [h]

set_option maxHeartbeats 400000 in
set_option maxRecDepth 100000 in
theorem specCrc (a : Option Addr) (cap : Nat) (l : List UInt8) (w : World) (hl : l.length ≤ 1048576) (hr : RdA w a l) :
    Calls Try.prog 47 #[.slice a l.length cap] w fun e w' => e = .returned (.int .i64 (Mt.crcN l)) ∧ w' = w := by
  go_enter Try.func47, Try.ntmps47
  go_wp2
  go_loop [3, 4] (fun h i => ∃ k : Nat, k ≤ l.length ∧ i = .int .i64 k ∧ h = .int .i64 (Mt.crcRun (l.take k))) (fun _ i => l.length - (intOf i).toNat)
  case atStart => exact ⟨0, Nat.zero_le _, rfl, rfl⟩
  case round =>
    obtain ⟨k, hk, rfl, rfl⟩ := hrel
    by_cases hlt : k < l.length
    · obtain ⟨b, off, rfl, hcell⟩ := hr k hlt
      have hX : bits BinOp.xor IntKind.i64 (Mt.crcRun (l.take k) : Int) (wrap64 (l[k].toNat : Int)) = ((Mt.crcRun (l.take k) ^^^ l[k].toNat : Nat) : Int) := by
        have hc : l[k].toNat < 256 := l[k].toNat_lt
        have hx := Mt.crcRun_lt (l.take k)
        rw [Mt.wrap64_id _ (by omega) (by omega)]; exact Mt.i64_xor _ _ (by omega) (by omega)
      have hXl : Mt.crcRun (l.take k) ^^^ l[k].toNat < 4294967296 := Mt.xor32_lt _ _ (Mt.crcRun_lt _) (by have hc : l[k].toNat < 256 := l[k].toNat_lt; omega)
      have HS : Hid (Mt.crcRun (l.take (k + 1)) = Mt.crcBits 8 (Mt.crcRun (l.take k) ^^^ l[k].toNat)) := by
        rw [List.take_succ_eq_append_getElem hlt, Mt.crcRun_snoc]; rfl
      generalize Mt.crcRun (l.take k) ^^^ l[k].toNat = X at hX hXl HS
      go_wp2
      clear hX
      go_loop [3, 5] (fun h j => ∃ m : Nat, m ≤ 8 ∧ j = .int .i64 m ∧ h = .int .i64 (Mt.crcBits m X)) (fun _ j => 8 - (intOf j).toNat)
      case atStart => exact ⟨0, Nat.zero_le _, rfl, rfl⟩
      case round =>
        obtain ⟨m, hm, rfl, rfl⟩ := hrel
        have hY := Mt.crcBits_lt m X hXl
        have HB : Hid (Mt.crcBits (m + 1) X = Mt.crcBit (Mt.crcBits m X)) := Mt.crcBits_succ m X
        by_cases hm8 : m < 8
        · generalize Mt.crcBits m X = Y at hY HB ⊢
          rcases Nat.mod_two_eq_zero_or_one Y with hp | hp
          · have hlow : bits .and .i64 (Y : Int) 1 = 0 := by rw [Mt.and_one_i64 Y hY, hp]; rfl
            have HH : Hid (Y % 2 = 0) := hp
            clear hp
            go_wp2
            go_round
            case rel => exact ⟨m + 1, by omega, by go_num, by rw [HB.out, Mt.crcBit_even Y HH.out]; exact vint (by omega)⟩
            case measure => simp [intOf]; omega
          · have hlow : bits .and .i64 (Y : Int) 1 = 1 := by rw [Mt.and_one_i64 Y hY, hp]; rfl
            have HH : Hid (Y % 2 = 1) := hp
            clear hp
            go_wp2
            go_round
            case rel => exact ⟨m + 1, by omega, by go_num, by rw [HB.out, Mt.crcBit_odd Y HH.out]; exact vint (Mt.xorTurn_i64 Y hY)⟩
            case measure => simp [intOf]; omega
        · go_wp2
          have hm' : m = 8 := by omega
          subst hm'
          go_round
          case rel => exact ⟨k + 1, by omega, by go_num, by rw [HS.out]⟩
          case measure => simp [intOf]; omega
    · go_wp2
      go_ret
      have hx := Mt.crcRun_lt l
      refine ⟨rint ?_, rfl⟩
      rw [List.take_of_length_le (by omega)]
      exact Mt.xorAll_i64 _ hx
theorem cset {w : World} {a : Addr} {u : Value} (h : w.cell? a = some u) (v : Value) : (w.setCell a v).cell? a = some v :=
  World.cell?_setCell_same' _ _ _ (by rw [h]; rfl)

set_option maxHeartbeats 400000 in
set_option maxRecDepth 100000 in
theorem crcAdd (c : UInt8) (B x : Nat) (w : World) (hx : x < 4294967296) (hcell : w.cell? ⟨B, 0, none⟩ = some (.int .u32 x)) (hfz : w.frozen? ⟨B, 0, none⟩ = false) :
    Calls Try.prog 42 #[.int .u8 (c.toNat : Int), .pointer (some ⟨B, 0, none⟩)] w fun e w' => e = .returned (.tuple #[]) ∧
      w'.cell? ⟨B, 0, none⟩ = some (.int .u32 (Mt.crcStep x c)) ∧ w'.frozen? ⟨B, 0, none⟩ = false ∧ Below B w w' := by
  have hX : bits BinOp.xor IntKind.u32 (x : Int) ((c.toNat : Int) % 4294967296) = ((x ^^^ c.toNat : Nat) : Int) := by
    have hc : c.toNat < 256 := c.toNat_lt
    rw [Int.emod_eq_of_lt (a := (c.toNat : Int)) (by omega) (by omega)]; exact u32_xor_nat _ _ hx (by omega)
  have hXl : x ^^^ c.toNat < 4294967296 := Mt.xor32_lt _ _ hx (by have hc : c.toNat < 256 := c.toNat_lt; omega)
  have HS : Hid (Mt.crcStep x c = Mt.crcBits 8 (x ^^^ c.toNat)) := rfl
  generalize x ^^^ c.toNat = X at hX hXl HS
  go_enter Try.func42, Try.ntmps42
  go_wp2
  go_loopw [8] (fun j wr => ∃ m : Nat, m ≤ 8 ∧ j = .int .i64 m ∧ wr.cell? ⟨B, 0, none⟩ = some (.int .u32 (Mt.crcBits m X)) ∧ wr.frozen? ⟨B, 0, none⟩ = false ∧ Below B w wr) (fun j _ => 8 - (intOf j).toNat)
  case atStart => exact ⟨0, Nat.zero_le _, rfl, cset hcell _, by rw [World.frozen?_setCell]; exact hfz, (Below.refl B w).setCell (p := ⟨B, 0, none⟩) (Nat.le_refl _) _⟩
  case round =>
    obtain ⟨m, hm, rfl, hcl, hfr, hb⟩ := hrel
    have hY := Mt.crcBits_lt m X hXl
    have HB : Hid (Mt.crcBits (m + 1) X = Mt.crcBit (Mt.crcBits m X)) := Mt.crcBits_succ m X
    by_cases hm8 : m < 8
    · generalize Mt.crcBits m X = Y at hY HB hcl ⊢
      rcases Nat.mod_two_eq_zero_or_one Y with hp | hp
      · have hlow : (Y : Int) % 2 = 0 := by omega
        have HH : Hid (Y % 2 = 0) := hp
        clear hp
        go_wp2
        have hv : (Y : Int) / 2 = ((Mt.crcBits (m + 1) X : Nat) : Int) := by rw [HB.out, Mt.crcBit_even Y HH.out]; omega
        go_roundw
        case rel => exact ⟨m + 1, by omega, by go_num, by rw [cset hcl, hv], by rw [World.frozen?_setCell]; exact hfr, hb.setCell (Nat.le_refl _) _⟩
        case measure => simp [intOf]; omega
      · have hlow : (Y : Int) % 2 = 1 := by omega
        have HH : Hid (Y % 2 = 1) := hp
        clear hp
        go_wp2
        have hv : bits .xor .u32 ((Y : Int) / 2) 2197175160 = ((Mt.crcBits (m + 1) X : Nat) : Int) := by rw [HB.out, Mt.crcBit_odd Y HH.out]; exact Mt.xorTurn_u32 Y hY
        go_roundw
        case rel => exact ⟨m + 1, by omega, by go_num, by rw [cset (cset hcl _), hv], by rw [World.frozen?_setCell, World.frozen?_setCell]; exact hfr, (hb.setCell (Nat.le_refl _) _).setCell (Nat.le_refl _) _⟩
        case measure => simp [intOf]; omega
    · go_wp2
      have hm' : m = 8 := by omega
      subst hm'
      go_end0
      exact ⟨rfl, by rw [HS.out]; exact hcl, hfr, hb⟩
set_option maxHeartbeats 400000 in
set_option maxRecDepth 100000 in
theorem implCrc (a : Option Addr) (cap : Nat) (l : List UInt8) (w : World) (hl : l.length ≤ 1048576) (hr : RdA w a l) :
    Calls Try.prog 30 #[.slice a l.length cap] w fun e w' => e = .returned (.int .i64 (Mt.crcN l)) ∧ Below w.heap.size w w' := by
  have hmf : ∀ (fn : Fn) (first cap : Array Value) (w : World), (Instr.makeFunc fn first cap).run Try.prog w = .ok (.func fn first cap) w := fun _ _ _ _ => rfl
  go_enter Try.func30, Try.ntmps30
  go_wp2
  go_loopw [10] (fun i wr => ∃ k : Nat, k ≤ l.length ∧ i = .int .i64 k ∧ wr.cell? ⟨w.heap.size, 0, none⟩ = some (.int .u32 (Mt.crcRun (l.take k))) ∧ wr.frozen? ⟨w.heap.size, 0, none⟩ = false ∧ Below w.heap.size w wr) (fun i _ => l.length - (intOf i).toNat)
  case atStart => exact ⟨0, Nat.zero_le _, rfl, by rw [World.cell?_alloc_at _ _ _ _ rfl]; rfl, World.frozen?_alloc_at _ _ _ _ rfl, (Below.refl _ _).alloc (Nat.le_refl _) _⟩
  case round =>
    obtain ⟨k, hk, rfl, hcl, hfr, hb⟩ := hrel
    by_cases hlt : k < l.length
    · obtain ⟨b, off, rfl, hcell⟩ := (hr.below hb) k hlt
      go_wp2_with (go_at_call 42; refine (crcAdd l[k] w.heap.size _ _ (Mt.crcRun_lt _) hcl hfr).mono ?_; rintro e w2 ⟨rfl, hcl2, hfr2, hb2⟩)
      have HS : Mt.crcRun (l.take (k + 1)) = Mt.crcStep (Mt.crcRun (l.take k)) l[k] := by rw [List.take_succ_eq_append_getElem hlt, Mt.crcRun_snoc]
      go_roundw
      case rel => exact ⟨k + 1, by omega, by go_num, by rw [HS]; exact hcl2, hfr2, hb.trans hb2⟩
      case measure => simp [intOf]; omega
    · have hsg : IntKind.u32.signed = false := rfl
      go_wp2
      go_ret
      refine ⟨rint ?_, hb⟩
      rw [List.take_of_length_le (by omega)]
      exact Mt.notAll_u32 _ (Mt.crcRun_lt l)
end Go.Proofs.Ytpejeoekpejblad.Wk
