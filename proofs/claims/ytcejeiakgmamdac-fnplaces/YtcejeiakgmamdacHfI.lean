/- What handoffs of the program comes to: a sequence of the Ids of all others; Handoffs. -/
import Derived.Test.YtcejeiakgmamdacPmI
import Derived.Test.YtcejeiakgmamdacCcI
import Derived.Test.YtcejeiakgmamdacRgB
import Derived.Laws.ByValue
import Derived.Deep.RegionHeld3
namespace Go.Proofs.Ytcejeiakgmamdac.Wk
set_option linter.unusedVariables false
open Go.ChangeShapes Go.WideShapes Go.ChangeAt Go.RowKit Go.Maps

attribute [local go_sem] Oper.semAt_some

set_option maxHeartbeats 4000000 in
set_option maxRecDepth 100000 in
theorem otherNil (b c : Option Addr) (cb cc : Nat) (p : List Int) (w : World) (hp : p.length ≤ 1048576) (hrp : RdZ w b p) :
    Calls Try.prog 80 #[.agg #[.slice b p.length cb], .slice c 0 cc] w fun e w' => e = .returned (.tuple #[.slice none 0 0, .slice none 0 0]) ∧ Below w.heap.size w w' := by
  have s0 := slot1New w (.slice b p.length cb) 36
  have hB0 := bel1 w (.cells #[.slice b p.length cb] 36)
  have cP := fun (w' : World) h1 => implPz b c cb cc p [] w' hp (by simp) h1 (fun i hi => by simp at hi) (by simp)
  go_enter Try.func80, Try.ntmps80
  go_wp2_with fail
  refine (cP _ (hrp.below hB0)).mono ?_
  rintro e w1 ⟨D, rfl, -, -, hb1⟩
  have hB1 := behind hB0 hb1
  go_wp2
  go_loopw [4, 5, 14] (fun u v i wr => u = .slice none 0 0 ∧ v = .slice none 0 0 ∧ i = .int .i64 0 ∧ wr = w1) (fun _ _ _ _ => 0)
  case atStart => exact ⟨rfl, rfl, rfl, rfl⟩
  case round =>
    obtain ⟨rfl, rfl, rfl, rfl⟩ := hrel
    go_wp2
    go_ret2
    exact ⟨rfl, hB1⟩

theorem otherAny (b c : Option Addr) (cb cc : Nat) (p : List Int) (l : List Sm.St) (w : World) (hp : p.length ≤ 1048576) (hl : l.length ≤ 1048576) (hrp : RdZ w b p) (hrl : RdS w c l) (w0 : World) (hrl0 : RdS w0 c l) (hwf : ∀ d ∈ l, (Lit.int .i64 d.2.1).wf = true) :
    Calls Try.prog 80 #[.agg #[.slice b p.length cb], .slice c l.length cc] w fun e w' => ∃ (bl : Nat) (A O : List (Nat × Sm.St)) (au av : Option Addr) (cu cv : Nat), e = .returned (.tuple #[.slice au A.length cu, .slice av O.length cv]) ∧
      w'.ownsRow w.heap.size 78 1 (.slice au A.length cu) A.length (Pv bl A) ∧ w'.ownsRow w.heap.size 78 1 (.slice av O.length cv) O.length (Pv bl O) ∧
      (A ++ O).map (fun x => x.2.1) = hand p l ∧ Led w0 bl (A ++ O) ∧ A.length ≤ l.length ∧ O.length ≤ l.length ∧ Below w.heap.size w w' := by
  by_cases h0 : 1 ≤ l.length
  · refine (otherI b c cb cc p l w hp h0 hl hrp hrl w0 hrl0 hwf).mono ?_
    rintro e w1 ⟨bl, A, O, au, av, cu, cv, rfl, hu, hv, hA, hO, hLA, hLO, h1, h2, hb⟩
    refine ⟨bl, A, O, au, av, cu, cv, rfl, hu, hv, ?_, ?_, h1, h2, hb⟩
    · unfold hand
      rw [← hA, ← hO, ← List.map_append, List.map_map]
      rfl
    · intro x hx
      rcases List.mem_append.1 hx with hx | hx
      · exact hLA x hx
      · exact hLO x hx
  · obtain rfl : l = [] := by cases l with | nil => rfl | cons x r => simp at h0
    refine (otherNil b c cb cc p w hp hrp).mono ?_
    rintro e w1 ⟨rfl, hb⟩
    exact ⟨0, [], [], none, none, 0, 0, rfl, World.ownsRow_nil _ _ _ _, World.ownsRow_nil _ _ _ _, rfl, Led.nil, Nat.le_refl _, Nat.le_refl _, hb⟩

theorem kpA_own {n₀ base n : Nat} {W W' : World} {v : Value} {xs : List Value} (h : KpA n₀ W W') (ho : W.ownsRow base 78 1 v n xs) : W'.ownsRow base 78 1 v n xs := by
  refine ⟨ho.1, ?_⟩
  rcases ho.2 with e | ⟨g, cap, cur, e, hb, hg, r⟩
  · exact .inl e
  · exact .inr ⟨g, cap, cur, e, hb, h.2 g cur 78 (0, 0) (by decide) (by decide) hg, r⟩

set_option maxHeartbeats 4000000 in
set_option maxRecDepth 100000 in
theorem handSeq (wz : World) (reps : Int) (a c : Option Addr) (ca cc : Nat) (ps : List (List Int)) (s : ByteArray) (l : List Sm.St) (hs : s.size ≤ 1048576) (hp : ps.length ≤ 1048576) (hq : (pick ps s).length ≤ 1048576) (hl : l.length ≤ 1048576) (hr : RdP wz a ps) (hrl : RdS wz c l) (hwf : ∀ d ∈ l, (Lit.int .i64 d.2.1).wf = true)
    (Br Bs Bl : Nat) (w : World) (hb : Below wz.heap.size wz w) (h0 : w.cell? ⟨Br, 0, none⟩ = some (.int .i64 reps)) (h1 : w.cell? ⟨Br, 1, none⟩ = some (.slice a ps.length ca)) (h2 : w.cell? ⟨Bs, 0, none⟩ = some (.string s)) (h3 : w.cell? ⟨Bl, 0, none⟩ = some (.slice c l.length cc)) (n : Nat) (hn : 2 ≤ n) :
    SeqStopsK Fence.wide n Try.prog 92 #[.pointer (some ⟨Br, 0, none⟩), .pointer (some ⟨Bs, 0, none⟩), .pointer (some ⟨Bl, 0, none⟩)] (fun x : Int => #[.int .i64 x]) (KpA wz.heap.size) (fun ys => ys = hand (pick ps s) l) (fun pre => pre <+: hand (pick ps s) l) (hand (pick ps s) l).length w := by
  intro lo J Jx W hW hJ hJx hY hJ0
  have c0 := cellOn h0 hW
  have c1 := cellOn h1 hW
  have c2 := cellOn h2 hW
  have c3 := cellOn h3 hW
  have hbW : Below wz.heap.size wz W := hb.trans (hW.mono hb.size)
  have cF := implFor wz reps a ca ps s W.drew hs hp hbW.drew hr
  have cO := fun (ai : Option Addr) (ci : Nat) (w' : World) (h1 : RdZ w' ai (pick ps s)) (h2 : RdS w' c l) => otherAny ai c ci cc (pick ps s) l w' hq hl h1 h2 wz hrl hwf
  generalize pick ps s = p at *
  generalize hand p l = H at *
  refine callsIn_of_wp (F := Fence.wide) Try.func92 rfl trivial ?_ rfl
  simp only [Try.ntmps92, List.size_toArray, List.length_cons, List.length_nil, Nat.reduceAdd, Nat.reduceSub, Array.replicate_succ, Array.replicate_zero, List.push_toArray, List.append_toArray, List.nil_append, List.cons_append]
  gi_wp2_with fail
  refine wpIn_wide.2 ?_
  go_region_held3 (fun wy => wy.cell? ⟨Br, 0, none⟩ = some (.int .i64 reps) ∧ wy.cell? ⟨Br, 1, none⟩ = some (.slice a ps.length ca) ∧ wy.cell? ⟨Bs, 0, none⟩ = some (.string s) ∧ wy.cell? ⟨Bl, 0, none⟩ = some (.slice c l.length cc))
    (first | exact ⟨c0, c1, c2, c3⟩ | exact keepR4 ‹_› ‹_› | go_keep)
    (first | (go_at_call 91; refine cF.mono ?_; rintro e w2 ⟨ai, ci, rfl, hz, hb2⟩) | (go_at_call 80; refine (cO ai ci _ (by exact hz.below (behind hbW.drew hb2)) (by exact hrl.below (behind hbW.drew hb2))).mono ?_; rintro e w3 ⟨bl, A, O, au, av, cu, cv, rfl, hu, hv, hA, hLed, hA1, hO1, hb3⟩) | fail)
  have hB3 := behind (w := W) (behind (Below.refl _ W).drew hb2) hb3
  have s4 := slot2New w3 (.slice au A.length cu) (.slice av O.length cv) 80
  have b4 := bel1 w3 (.cells #[.slice au A.length cu, .slice av O.length cv] 80)
  have hu4 := ownOn hu b4
  have hv4 := ownOn hv b4
  have hB4 := behind hB3 b4
  have cC := concatI w3.heap.size 2 A.length O.length cu cv w2.heap.size bl au av A O _ rfl rfl (by omega) (by omega) s4.1.1 s4.1.2 hu4 hv4
  rw [← List.length_append] at cC
  have hlen : (A ++ O).length ≤ 2097152 := by rw [List.length_append]; omega
  have hHl : H.length = (A ++ O).length := by rw [← hA, List.length_map]
  generalize A ++ O = L at cC hA hLed hlen hHl
  clear hu hv hu4 hv4 s4 cO cF c0 c1 c2 c3 h0 h1 h2 h3 hA1 hO1 b4
  have hn1 : 1 ≤ n := by omega
  have hf9 : Fence.wide.fn 93 := trivial
  gi_wp2_with (gi_at_call 93; refine (callsIn_wide.2 cC).mono ?_; rintro e w5 ⟨a5, c5, rfl, ho, hb5⟩)
  have hB5 := behind hB4 hb5
  have hJ5 : J [] w5 := hJ [] W w5 none hJ0 ⟨hB5.os, hB5.tape, hB5.output, hB5.size, fun k hk _ => hB5.block k hk⟩ (fun r e => by cases e)
  have hbz := behind hbW hB5
  generalize (w3.alloc (.cells #[.slice au A.length cu, .slice av O.length cv] 80)).heap.size = B at ho
  clear hb5 hB5 hB4 hb2 hb3 hB3 hW hJ0 hb hq
  gi_loopw [22] (fun i wr => ∃ k : Nat, k ≤ L.length ∧ i = .int .i64 k ∧ J (H.take k) wr ∧ Below wz.heap.size wz wr ∧ wr.ownsRow B 78 1 (.slice a5 L.length c5) L.length (Pv bl L))
    (fun i _ => L.length - (intOf i).toNat)
  case atStart => exact ⟨0, Nat.zero_le _, rfl, hJ5, hbz, ho⟩
  case round =>
    obtain ⟨k, hk, rfl, hJs, hbr, hor⟩ := hrel
    by_cases hlt : k < L.length
    · obtain ⟨g, off, rfl, hc⟩ := (Pv_rd hor) k hlt
      obtain ⟨y0, -⟩ := hLed.below hbr _ (List.getElem_mem hlt)
      have hkH : k < H.length := by omega
      have hx : H[k] = L[k].2.1 := by
        have : H[k] = (L.map (fun x => x.2.1))[k]'(by simpa using hlt) := by congr 1; exact hA.symm
        rw [this, List.getElem_map]
      have hlt' : (k : Int) < (L.length : Int) := by omega
      have hT : H.take (k + 1) = H.take k ++ [L[k].2.1] := by rw [List.take_succ_eq_append_getElem hkH, hx]
      have hP : H.take (k + 1) <+: H := List.take_prefix _ _
      obtain ⟨fn, tmps, assign, body, hy, hR⟩ := hY _ L[k].2.1 wr hJs (by rw [List.length_take]; omega)
      rw [← hT] at hR
      clear hT hx
      generalize L[k] = d at hc y0 hy hR
      obtain ⟨o, i, z, q⟩ := d
      dsimp only at hy hc y0 hR
      gi_wp2
      refine hR.mono ?_
      rintro e W3 (⟨rfl, hJ3, hk3⟩ | ⟨rfl, hJx3⟩)
      · gi_wp2
        go_roundw
        case rel => exact ⟨k + 1, by omega, by go_num, hJ3, hbr.trans hk3.1, kpA_own hk3 hor⟩
        case measure => simp [intOf]; omega
      · gi_wp2
        refine bodyPost_ret (results_none rfl _ _ _) rfl ?_
        exact ⟨⟨_, rfl⟩, .inr ⟨_, hP, hJx3⟩⟩
    · have e9 : H.take k = H := List.take_of_length_le (by omega)
      rw [e9] at hJs
      obtain rfl : k = L.length := by omega
      gi_wp2
      go_end0
      exact ⟨⟨_, rfl⟩, .inl ⟨_, rfl, hJs⟩⟩

set_option maxHeartbeats 2000000 in
set_option maxRecDepth 100000 in
theorem implHands1 (reps : Int) (a c : Option Addr) (n ca m cc : Nat) (s : ByteArray) (w : World) :
    Calls Try.prog 72 #[.agg #[.int .i64 reps, .slice a n ca], .slice c m cc, .string s] w fun e w' => e = .returned (.func (.func 92) #[] #[.pointer (some ⟨w.heap.size, 0, none⟩), .pointer (some ⟨w.heap.size + 1 + 1, 0, none⟩), .pointer (some ⟨w.heap.size + 1, 0, none⟩)]) ∧
      w' = ((w.alloc (.cells #[.int .i64 reps, .slice a n ca] 29)).alloc (.cells #[.slice c m cc] 24)).alloc (.cells #[.string s] 9) := by
  go_enter Try.func72, Try.ntmps72
  go_wp2
  go_ret
  exact ⟨rfl, rfl⟩

set_option maxHeartbeats 2000000 in
set_option maxRecDepth 100000 in
theorem implHands (reps : Int) (a c : Option Addr) (ca cc : Nat) (ps : List (List Int)) (s : ByteArray) (l : List Sm.St) (w : World) (hs : s.size ≤ 1048576) (hp : ps.length ≤ 1048576) (hq : (pick ps s).length ≤ 1048576) (hl : l.length ≤ 1048576) (hr : RdP w a ps) (hrl : RdS w c l) (hwf : ∀ d ∈ l, (Lit.int .i64 d.2.1).wf = true) :
    Calls Try.prog 32 #[.agg #[.int .i64 reps, .slice a ps.length ca], .slice c l.length cc, .string s] w fun e w' => ∃ (g q : Nat), e = .returned (.slice (some ⟨g, 0, none⟩) (hand (pick ps s) l).length q) ∧
      w'.ownsRow w.heap.size 3 1 (.slice (some ⟨g, 0, none⟩) (hand (pick ps s) l).length q) (hand (pick ps s) l).length (Zv (hand (pick ps s) l)) ∧ Below w.heap.size w w' := by
  have hHl := hand_len (pick ps s) l
  have b0 := bel1 w (.cells #[.int .i64 reps, .slice a ps.length ca] 29)
  have s0 := slot2New w (.int .i64 reps) (.slice a ps.length ca) 29
  obtain ⟨⟨c0, c1⟩, -⟩ := id s0
  have cP := fun w => implHands1 reps a c ps.length ca l.length cc s w
  go_enter Try.func32, Try.ntmps32
  go_wp2_with fail
  refine (cP _).mono ?_
  rintro e w2 ⟨rfl, rfl⟩
  go_wp2_with fail
  have e1 := (((emptyB (w.alloc (.cells #[.int .i64 reps, .slice a ps.length ca] 29)) w.heap.size (by simp)).alloc (.cells #[.int .i64 reps, .slice a ps.length ca] 29)).alloc (.cells #[.slice c l.length cc] 24)).alloc (.cells #[.string s] 9)
  have bA := bel1 (w.alloc (.cells #[.int .i64 reps, .slice a ps.length ca] 29)) (.cells #[] 3)
  have bB := bel1 ((w.alloc (.cells #[.int .i64 reps, .slice a ps.length ca] 29)).alloc (.cells #[] 3)) (.cells #[.int .i64 reps, .slice a ps.length ca] 29)
  have s3 := slot2New ((w.alloc (.cells #[.int .i64 reps, .slice a ps.length ca] 29)).alloc (.cells #[] 3)) (.int .i64 reps) (.slice a ps.length ca) 29
  have hB := behind (behind b0 bA) bB
  simp only [World.size_alloc] at e1 s3
  have z3 : (((w.alloc (.cells #[.int .i64 reps, .slice a ps.length ca] 29)).alloc (.cells #[] 3)).alloc (.cells #[.int .i64 reps, .slice a ps.length ca] 29)).heap.size = w.heap.size + 1 + 1 + 1 := by simp
  generalize ((w.alloc (.cells #[.int .i64 reps, .slice a ps.length ca] 29)).alloc (.cells #[] 3)).alloc (.cells #[.int .i64 reps, .slice a ps.length ca] 29) = w3 at *
  have bC := bel1 w3 (.cells #[.slice c l.length cc] 24)
  have s4 := slot1New w3 (.slice c l.length cc) 24
  have bD := bel1 (w3.alloc (.cells #[.slice c l.length cc] 24)) (.cells #[.string s] 9)
  have s5 := slot1New (w3.alloc (.cells #[.slice c l.length cc] 24)) (.string s) 9
  have hB := behind (behind hB bC) bD
  have s3 := (s3.below bC).below bD
  have s4 := s4.below bD
  simp only [World.size_alloc, z3] at s4 s5
  obtain ⟨⟨d0, d1⟩, -⟩ := id s3
  obtain ⟨d2, -⟩ := id s4
  obtain ⟨d3, -⟩ := id s5
  clear z3 bA bB bC bD s3 s4 s5
  refine (appSeq 92 _ (enters_of Try.func92 (by kernel_rfl) rfl) (hand (pick ps s) l) (by omega) w.heap.size _ 0 (fun pre => pre <+: hand (pick ps s) l) _ e1 hB.size (by simp) (handSeq w reps a c ca cc ps s l hs hp hq hl hr hrl hwf (w.heap.size + 1 + 1) (w.heap.size + 1 + 1 + 1 + 1) (w.heap.size + 1 + 1 + 1) _ hB d0 d1 d3 d2 8 (by omega))).mono ?_
  rintro e w6 ⟨g, q, rfl, ho, hb6⟩
  go_wp2
  go_ret
  exact ⟨g, q, rfl, ho, hB.trans hb6⟩
end Go.Proofs.Ytcejeiakgmamdac.Wk
