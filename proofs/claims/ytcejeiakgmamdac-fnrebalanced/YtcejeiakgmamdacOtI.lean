/- What otherDevs of the program comes to: the devices that a part has not, those in zones that are new to it and the rest. -/
import Derived.Test.YtcejeiakgmamdacLtM
import Derived.Test.YtcejeiakgmamdacOpM
import Derived.Test.YtcejeiakgmamdacPzI
import Derived.Test.YtcejeiakgmamdacCtI
import Derived.Test.YtcejeiakgmamdacTxM
import Derived.Test.YtcejeiakgmamdacRgT
import Derived.Deep.AppendLies
namespace Go.Proofs.Ytcejeiakgmamdac.Wk
set_option linter.unusedVariables false
open Go.ChangeShapes Go.WideShapes Go.ChangeAt Go.RowKit Go.Maps

theorem infoX : (Try.prog.info? 78).map (fun i => (i.zero, i.size, i.bytes)) = some (some (.pointer none), 1, 8) := by kernel_rfl
theorem belowDQ {B : Nat} {a w : World} (h : Below B a w) (n : Nat) : Below B a (w.drewN n) := h.trans ⟨rfl, rfl, rfl, Nat.le_refl _, fun _ _ => rfl⟩
theorem oneX_one {a : Addr} : ∀ u ∈ [Value.pointer (some a)], u.oneCell' = true := by
  intro u hu
  simp at hu
  subst hu
  rfl
theorem Pv_snoc (b : Nat) (L : List (Nat × Sm.St)) (x : Nat × Sm.St) : Pv b (L ++ [x]) = Pv b L ++ [.pointer (some ⟨b, x.1, none⟩)] := by simp [Pv]
theorem Pv_rd {w : World} {base cap b : Nat} {e : TypeId} {a : Option Addr} {L : List (Nat × Sm.St)} (hown : w.ownsRow base e 1 (.slice a L.length cap) L.length (Pv b L)) : RdPt w a b L := by
  rcases hown.2 with ⟨h, h0⟩ | ⟨g, cap', cur, h, hb, _⟩
  · intro i hi
    omega
  · simp only [Value.slice.injEq] at h
    obtain ⟨rfl, -, -⟩ := h
    intro i hi
    refine ⟨g, 0, rfl, ?_⟩
    rw [Nat.zero_add, hown.cellAt i (by omega)]
    simp [Pv, hi]
theorem Led.nil {w : World} {b : Nat} : Led w b [] := fun x h => by cases h
theorem Led.snoc {w : World} {b : Nat} {L : List (Nat × Sm.St)} {x : Nat × Sm.St} (h : Led w b L) (hx : StAt w b x.1 x.2) : Led w b (L ++ [x]) := by
  intro y hy
  rcases List.mem_append.1 hy with hy | hy
  · exact h y hy
  · rw [List.mem_singleton] at hy
    subst hy
    exact hx
theorem grownOwnX {w w1 w2 : World} {base e n : Nat} {v : Value} {xs : List Value} (hb : Below base w w1) (h : w1.ownsRow base e 1 v n xs) (hg : w1.grownBy w2 v.ownBlock) (hs : base ≤ w1.heap.size) : Below base w w2 :=
  hb.grown hg hs (fun k e => (World.ownsRow.lt h k e).1)
/-- two rows that share no block -/
def Apart (u v : Value) : Prop := u.ownBlock = none ∨ u.ownBlock ≠ v.ownBlock
theorem Apart.symm {u v : Value} (h : Apart u v) : Apart v u := by
  rcases h with h | h
  · cases hv : v.ownBlock with
    | none => exact .inl hv
    | some x => exact .inr (by rw [h, hv]; simp)
  · exact .inr h.symm
/-- the one row grows, the other one is as it was -/
theorem rowGrown {w w' : World} {base e n : Nat} {u v : Value} {xs : List Value} (h : w.ownsRow base e 1 v n xs) (hg : w.grownBy w' u.ownBlock) (ha : Apart v u) : w'.ownsRow base e 1 v n xs := h.kept hg ha
theorem apartGrown {w : World} {base e n g cap m : Nat} {u v : Value} {xs : List Value} (h : w.ownsRow base e 1 v n xs) (ha : Apart u v) (hg : u.ownBlock = some g ∨ g = w.heap.size) : Apart (.slice (some ⟨g, 0, none⟩) m cap) v := by
  refine .inr fun e => ?_
  have e' : some g = v.ownBlock := e
  rcases hg with hg | hg
  · rcases ha with ha | ha
    · rw [ha] at hg; cases hg
    · exact ha (hg.trans e')
  · have := (World.ownsRow.lt h g e'.symm).2
    omega

set_option maxHeartbeats 4000000 in
set_option maxRecDepth 100000 in
theorem otherI (b c : Option Addr) (cb cc : Nat) (p : List Int) (l : List Sm.St) (w : World) (hp : p.length ≤ 1048576) (hl0 : 1 ≤ l.length) (hl : l.length ≤ 1048576) (hrp : RdZ w b p) (hrl : RdS w c l) (w0 : World) (hrl0 : RdS w0 c l) (hwf : ∀ d ∈ l, (Lit.int .i64 d.2.1).wf = true) :
    Calls Try.prog 80 #[.agg #[.slice b p.length cb], .slice c l.length cc] w fun e w' => ∃ (bl : Nat) (A O : List (Nat × Sm.St)) (au av : Option Addr) (cu cv : Nat), e = .returned (.tuple #[.slice au A.length cu, .slice av O.length cv]) ∧
      w'.ownsRow w.heap.size 78 1 (.slice au A.length cu) A.length (Pv bl A) ∧ w'.ownsRow w.heap.size 78 1 (.slice av O.length cv) O.length (Pv bl O) ∧
      A.map (·.2) = Rg.freshL p (Rg.zns l p) l ∧ O.map (·.2) = Rg.otherL p (Rg.zns l p) l ∧ Led w0 bl A ∧ Led w0 bl O ∧ A.length ≤ l.length ∧ O.length ≤ l.length ∧ Below w.heap.size w w' := by
  obtain ⟨bl, off, rfl, -⟩ := hrl 0 (by omega)
  have HC : Hid (∀ k (h : k < l.length), StAt w bl (off + k * 3) l[k]) := fun k h => by
    obtain ⟨b9, o9, e, hc⟩ := hrl k h
    simp only [Option.some.injEq, Addr.mk.injEq] at e
    obtain ⟨rfl, rfl, -⟩ := e
    exact hc
  have HC0 : Hid (∀ k (h : k < l.length), StAt w0 bl (off + k * 3) l[k]) := fun k h => by
    obtain ⟨b9, o9, e, hc⟩ := hrl0 k h
    simp only [Option.some.injEq, Addr.mk.injEq] at e
    obtain ⟨rfl, rfl, -⟩ := e
    exact hc
  clear hrl0
  obtain ⟨i0, hif, hz0, hz1, hz2⟩ := info_parts infoX
  have s0 := slot1New w (.slice b p.length cb) 36
  have hB0 := bel1 w (.cells #[.slice b p.length cb] 36)
  have HF : Hid (∀ d ∈ l, (Lit.int .i64 d.2.1).wf = true) := hwf
  have cP := fun (w' : World) h1 h2 => implPz b (some ⟨bl, off, none⟩) cb cc p l w' hp hl h1 h2 hwf
  generalize Rg.zns l p = Z at cP ⊢
  go_enter Try.func80, Try.ntmps80
  go_wp2_with fail
  refine (cP _ (hrp.below hB0) (hrl.below hB0)).mono ?_
  rintro e w1 ⟨D, rfl, hownD, hzm, hb1⟩
  simp only [World.size_alloc] at hownD ⊢
  have hB1 := behind hB0 hb1
  have s1 := s0.below hb1
  have hrp1 := hrp.below hB1
  clear hwf s0 hb1 hB0 hrl cP
  have HZM : Hid (ZM p.length D Z) := hzm
  clear hzm
  go_wp2
  go_loopw [4, 5, 14] (fun u v i wr => ∃ (k : Nat) (A O : List (Nat × Sm.St)), k ≤ l.length ∧ i = .int .i64 k ∧ A.length ≤ k ∧ O.length ≤ k ∧ wr.ownsRow w1.heap.size 78 1 u A.length (Pv bl A) ∧ wr.ownsRow w1.heap.size 78 1 v O.length (Pv bl O) ∧ Hid (Apart u v) ∧
    Hid (A.map (·.2) = Rg.freshL p Z (l.take k)) ∧ Hid (O.map (·.2) = Rg.otherL p Z (l.take k)) ∧ Hid (Led w0 bl A) ∧ Hid (Led w0 bl O) ∧ Below w1.heap.size w1 wr) (fun _ _ i _ => l.length - (intOf i).toNat)
  case atStart => exact ⟨0, [], [], Nat.zero_le _, rfl, Nat.le_refl _, Nat.le_refl _, World.ownsRow_nil _ _ _ _, World.ownsRow_nil _ _ _ _, .inl rfl, rfl, rfl, Led.nil, Led.nil, Below.refl _ _⟩
  case round =>
    obtain ⟨k, A, O, hk, rfl, hAk, hOk, hu, hv, HAp, HA, HO, HLA, HLO, hb⟩ := hrel
    obtain ⟨au, cu, rfl⟩ := Zv_shape hu
    obtain ⟨av, cv, rfl⟩ := Zv_shape hv
    by_cases hlt : k < l.length
    · have HS := HC.out k hlt
      have HSk : Hid (StAt w0 bl (off + k * 3) l[k]) := HC0.out k hlt
      have hx := (HS.below hB1).below hb
      have HfS : Hid (Rg.freshL p Z (l.take (k + 1)) = Rg.freshL p Z (l.take k) ++ (if l[k].1 ∈ p then [] else if l[k].2.1 ∈ Z then [] else [l[k]])) := Rg.fresh_step hlt
      have HoS : Hid (Rg.otherL p Z (l.take (k + 1)) = Rg.otherL p Z (l.take k) ++ (if l[k].1 ∈ p then [] else if l[k].2.1 ∈ Z then [l[k]] else [])) := Rg.other_step hlt
      have hw := HF.out l[k] (List.getElem_mem hlt)
      generalize l[k] = d at HSk hx HfS HoS hw
      clear HS
      obtain ⟨i, z, n⟩ := d
      obtain ⟨x0, x1, -⟩ := hx
      dsimp only at x0 x1 HfS HoS hw
      obtain ⟨c0, -⟩ := s1.below hb
      have cX := fun (w' : World) (h : RdZ w' b p) => containsZ b cb p i w' hp h
      have hrt := hrp1.below hb
      have hkey : keyOf Try.prog 3 (.int .i64 z) = some (.int .i64 z) := keyOf_int_mk Try.underlying3 hw
      have ho := mapOn hownD hb
      have hkl : (k : Int) < (l.length : Int) := by omega
      by_cases hin : i ∈ p
      · rw [decide_eq_true hin] at cX
        have HA' : Hid (A.map (·.2) = Rg.freshL p Z (l.take (k + 1))) := by
          show A.map (·.2) = _
          rw [HfS.out, if_pos hin, List.append_nil]; exact HA.out
        have HO' : Hid (O.map (·.2) = Rg.otherL p Z (l.take (k + 1))) := by
          show O.map (·.2) = _
          rw [HoS.out, if_pos hin, List.append_nil]; exact HO.out
        clear HA HO HfS HoS hin
        go_wp2_with fail
        go_quiet (first | (go_at_call 66; exact Calls.quiet_of_same (cX _ hrt)) | fail)
        go_wp2
        go_roundw
        case rel => exact ⟨k + 1, A, O, by omega, by go_num, by omega, by omega, ownOn hu (belowDQ (Below.refl _ _) nq), ownOn hv (belowDQ (Below.refl _ _) nq), HAp, HA', HO', HLA, HLO, belowDQ hb nq⟩
        case measure => simp [intOf]; omega
      · rw [decide_eq_false hin] at cX
        by_cases hz : z ∈ Z
        · have HN : Hid (∀ c, D.atKey (.int .i64 z) (.lit (.int .i64 0)) = .lit (.int .i64 c) → ¬ c = 0) := fun c h => by
            have := HZM.out.new h
            rw [decide_eq_true hz] at this
            simpa using this
          have HA' : Hid (A.map (·.2) = Rg.freshL p Z (l.take (k + 1))) := by
            show A.map (·.2) = _
            rw [HfS.out, if_neg hin, if_pos hz, List.append_nil]; exact HA.out
          have HO' : Hid ((O ++ [(off + k * 3, (i, z, n))]).map (·.2) = Rg.otherL p Z (l.take (k + 1))) := by
            show (O ++ [(off + k * 3, (i, z, n))]).map (·.2) = _
            rw [HoS.out, if_neg hin, if_pos hz, List.map_append, HO.out]; rfl
          have HLO' : Hid (Led w0 bl (O ++ [(off + k * 3, (i, z, n))])) := HLO.out.snoc HSk.out
          clear HA HO HfS HoS hin hz HSk
          go_wp2_with fail
          go_quiet (first | (go_at_call 66; exact Calls.quiet_of_same (cX _ hrt)) | fail)
          have hbq := belowDQ hb nq
          have hu := ownOn hu (belowDQ (Below.refl _ _) nq)
          have hv := ownOn hv (belowDQ (Below.refl _ _) nq)
          have ho := mapOn ho (belowDQ (Below.refl _ _) nq)
          have x1 := cellOn x1 (belowDQ (Below.refl _ _) nq)
          have hs2 := hbq.size
          generalize wr.drewN nq = w2 at *
          have hu3 := ownOn hu (bel1 w2 (.cells #[.pointer (some ⟨bl, off + k * 3, none⟩)] 78))
          have hv3 := ownOn hv (bel1 w2 (.cells #[.pointer (some ⟨bl, off + k * 3, none⟩)] 78))
          have hB3 := behind hbq (bel1 w2 (.cells #[.pointer (some ⟨bl, off + k * 3, none⟩)] 78))
          go_wp2_with (first
            | (at_lookup; refine wpList_lookup_own_int _ rfl _ _ 71 rfl 3 3 .i64 lawPz Try.underlying71 Try.underlying3 (zeroPz _) _ p.length _ rfl ho _ _ rfl hkey ?_; intro c hat hwc; have hc9 := HN.out c hat)
            | (at_builtin; refine wpList_append_lies _ rfl (.tmp 20) (.tmp 22) 80 rfl w1.heap.size 78 i0 _ 1 8 Try.underlying80 hif hz0 hz1 hz2 rfl (by decide) _ _ _ rfl hv3 ⟨_, 0, none⟩ 1 1 [.pointer (some ⟨bl, off + k * 3, none⟩)] rfl rfl oneZ_at oneX_one (by omega) (by unfold maxLen; omega) (by omega) (by simp; omega) _ rfl ?_; intro g4 cap4 w4 hown4 hgrow4 hat4 hlt4))
          have HAp' : Hid (Apart (.slice au A.length cu) (.slice (some ⟨g4, 0, none⟩) (O.length + 1) cap4)) := (apartGrown hu3 HAp.out.symm hat4).symm
          have hu4 := rowGrown hu3 hgrow4 HAp.out
          have hB4 := grownOwnX hB3 hv3 hgrow4 (by simp; omega)
          have hv4 : w4.ownsRow w1.heap.size 78 1 (.slice (some ⟨g4, 0, none⟩) (O.length + 1) cap4) (O ++ [(off + k * 3, (i, z, n))]).length (Pv bl (O ++ [(off + k * 3, (i, z, n))])) := by
            rw [Pv_snoc, List.length_append]; exact hown4
          clear hown4 hgrow4 hat4 hlt4 hu3 hv3 hB3
          go_wp2
          go_roundw
          case rel => exact ⟨k + 1, A, _, by omega, by go_num, by omega, by simp; omega, hu4, hv4, HAp', HA', HO', HLA, HLO', hB4⟩
          case measure => simp [intOf]; omega
        · have HN : Hid (∀ c, D.atKey (.int .i64 z) (.lit (.int .i64 0)) = .lit (.int .i64 c) → c = 0) := fun c h => by
            have := HZM.out.new h
            rw [decide_eq_false hz] at this
            simpa using this
          have HA' : Hid ((A ++ [(off + k * 3, (i, z, n))]).map (·.2) = Rg.freshL p Z (l.take (k + 1))) := by
            show (A ++ [(off + k * 3, (i, z, n))]).map (·.2) = _
            rw [HfS.out, if_neg hin, if_neg hz, List.map_append, HA.out]; rfl
          have HO' : Hid (O.map (·.2) = Rg.otherL p Z (l.take (k + 1))) := by
            show O.map (·.2) = _
            rw [HoS.out, if_neg hin, if_neg hz, List.append_nil]; exact HO.out
          have HLA' : Hid (Led w0 bl (A ++ [(off + k * 3, (i, z, n))])) := HLA.out.snoc HSk.out
          clear HA HO HfS HoS hin hz HSk
          go_wp2_with fail
          go_quiet (first | (go_at_call 66; exact Calls.quiet_of_same (cX _ hrt)) | fail)
          have hbq := belowDQ hb nq
          have hu := ownOn hu (belowDQ (Below.refl _ _) nq)
          have hv := ownOn hv (belowDQ (Below.refl _ _) nq)
          have ho := mapOn ho (belowDQ (Below.refl _ _) nq)
          have x1 := cellOn x1 (belowDQ (Below.refl _ _) nq)
          have hs2 := hbq.size
          generalize wr.drewN nq = w2 at *
          have hu3 := ownOn hu (bel1 w2 (.cells #[.pointer (some ⟨bl, off + k * 3, none⟩)] 78))
          have hv3 := ownOn hv (bel1 w2 (.cells #[.pointer (some ⟨bl, off + k * 3, none⟩)] 78))
          have hB3 := behind hbq (bel1 w2 (.cells #[.pointer (some ⟨bl, off + k * 3, none⟩)] 78))
          go_wp2_with (first
            | (at_lookup; refine wpList_lookup_own_int _ rfl _ _ 71 rfl 3 3 .i64 lawPz Try.underlying71 Try.underlying3 (zeroPz _) _ p.length _ rfl ho _ _ rfl hkey ?_; intro c hat hwc; have hc9 := HN.out c hat)
            | (at_builtin; refine wpList_append_lies _ rfl (.tmp 40) (.tmp 42) 80 rfl w1.heap.size 78 i0 _ 1 8 Try.underlying80 hif hz0 hz1 hz2 rfl (by decide) _ _ _ rfl hu3 ⟨_, 0, none⟩ 1 1 [.pointer (some ⟨bl, off + k * 3, none⟩)] rfl rfl oneZ_at oneX_one (by omega) (by unfold maxLen; omega) (by omega) (by simp; omega) _ rfl ?_; intro g4 cap4 w4 hown4 hgrow4 hat4 hlt4))
          have HAp' : Hid (Apart (.slice (some ⟨g4, 0, none⟩) (A.length + 1) cap4) (.slice av O.length cv)) := apartGrown hv3 HAp.out hat4
          have hv4 := rowGrown hv3 hgrow4 HAp.out.symm
          have hB4 := grownOwnX hB3 hu3 hgrow4 (by simp; omega)
          have hu4 : w4.ownsRow w1.heap.size 78 1 (.slice (some ⟨g4, 0, none⟩) (A.length + 1) cap4) (A ++ [(off + k * 3, (i, z, n))]).length (Pv bl (A ++ [(off + k * 3, (i, z, n))])) := by
            rw [Pv_snoc, List.length_append]; exact hown4
          clear hown4 hgrow4 hat4 hlt4 hu3 hv3 hB3
          go_wp2
          go_roundw
          case rel => exact ⟨k + 1, _, O, by omega, by go_num, by simp; omega, by omega, hu4, hv4, HAp', HA', HO', HLA', HLO, hB4⟩
          case measure => simp [intOf]; omega
    · have e9 : l.take k = l := List.take_of_length_le (by omega)
      have eA := HA.out
      have eO := HO.out
      rw [e9] at eA eO
      have HA' : Hid (A.map (·.2) = Rg.freshL p Z l) := eA
      have HO' : Hid (O.map (·.2) = Rg.otherL p Z l) := eO
      have hB9 := behind hB1 hb
      have hs9 := hB1.size
      clear HA HO eA eO e9
      go_wp2
      go_ret2
      exact ⟨bl, A, O, au, av, cu, cv, rfl, hu.mono hs9, hv.mono hs9, HA'.out, HO'.out, HLA.out, HLO.out, by omega, by omega, hB9⟩
end Go.Proofs.Ytcejeiakgmamdac.Wk
