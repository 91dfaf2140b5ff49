/- Rings: loads that add up, zones of a part, the best device, what a built ring comes to. Plain facts. -/
import Derived.Test.YtcejeiakgmamdacOpM
import Derived.Test.YtcejeiakgmamdacRsM
namespace Go.Proofs.Ytcejeiakgmamdac.Rg
set_option linter.unusedVariables false
open Dv

theorem sub_len : ∀ (A B : List Int), A.Nodup → (∀ x ∈ A, x ∈ B) → A.length ≤ B.length
  | [], B, _, _ => Nat.zero_le _
  | a :: A, B, hn, hs => by
    rw [List.nodup_cons] at hn
    have ha := hs a List.mem_cons_self
    have h := sub_len A (B.erase a) hn.2 (fun x hx => (List.mem_erase_of_ne (fun (e : x = a) => hn.1 (e ▸ hx))).2 (hs x (List.mem_cons_of_mem _ hx)))
    have h2 := List.length_erase_of_mem ha
    have h3 := List.length_pos_of_mem ha
    rw [List.length_cons]
    omega
theorem at_mem {l : List Sm.St} {id : Int} {d : Sm.St} (h : at_ l id = some d) : d ∈ l ∧ d.1 = id := by
  unfold at_ at h
  exact ⟨List.mem_of_find?_eq_some h, by simpa using List.find?_some h⟩
theorem at_self {l : List Sm.St} (hd : devs l = true) {d : Sm.St} (h : d ∈ l) : at_ l d.1 = some d := by
  obtain ⟨k, hk, rfl⟩ := List.mem_iff_getElem.1 h
  exact devs_at hd k hk
theorem at_some {l : List Sm.St} {id : Int} (h : (at_ l id).isSome = true) : ∃ d ∈ l, d.1 = id ∧ at_ l id = some d := by
  obtain ⟨d, hd⟩ := Option.isSome_iff_exists.1 h
  exact ⟨d, (at_mem hd).1, (at_mem hd).2, hd⟩
theorem ids_nodup {l : List Sm.St} (hd : devs l = true) : (l.map fun d => d.1).Nodup := by
  rw [List.nodup_iff_pairwise_ne, List.pairwise_map, List.pairwise_iff_getElem]
  intro i j hi hj hij e
  have := devs_rise hd j hj i hij
  omega

theorem zfold_nodup (l : List Sm.St) : ∀ (ids out : List Int), out.Nodup → (ids.foldl (zadd l) out).Nodup
  | [], out, h => h
  | x :: r, out, h => by
    rw [List.foldl_cons]
    refine zfold_nodup l r _ ?_
    unfold zadd
    split
    · exact h
    · split
      · exact h
      · next hz =>
        rw [List.nodup_append]
        refine ⟨h, by simp, fun a ha b hb e => ?_⟩
        rw [List.mem_singleton] at hb
        subst hb
        exact hz (e ▸ ha)
theorem zns_nodup (l : List Sm.St) (ids : List Int) : (zns l ids).Nodup := zfold_nodup l ids [] List.nodup_nil
theorem zfold_mem (l : List Sm.St) (z : Int) : ∀ (ids out : List Int), z ∈ ids.foldl (zadd l) out ↔ z ∈ out ∨ ∃ id ∈ ids, ∃ d, at_ l id = some d ∧ d.2.1 = z
  | [], out => by simp
  | x :: r, out => by
    rw [List.foldl_cons, zfold_mem l z r]
    have h : z ∈ zadd l out x ↔ z ∈ out ∨ ∃ d, at_ l x = some d ∧ d.2.1 = z := by
      unfold zadd
      split
      · next e => simp [e]
      · next d e =>
        split
        · next hm =>
          constructor
          · exact .inl
          · rintro (h | ⟨d', e', rfl⟩)
            · exact h
            · rw [e] at e'
              cases e'
              exact hm
        · simp only [List.mem_append, List.mem_singleton]
          constructor
          · rintro (h | rfl)
            · exact .inl h
            · exact .inr ⟨d, e, rfl⟩
          · rintro (h | ⟨d', e', rfl⟩)
            · exact .inl h
            · rw [e] at e'
              cases e'
              exact .inr rfl
    rw [h]
    clear h
    constructor
    · rintro ((h | h) | ⟨id, hi, h⟩)
      · exact .inl h
      · exact .inr ⟨x, List.mem_cons_self, h⟩
      · exact .inr ⟨id, List.mem_cons_of_mem _ hi, h⟩
    · rintro (h | ⟨id, hi, h⟩)
      · exact .inl (.inl h)
      · rcases List.mem_cons.1 hi with rfl | hi
        · exact .inl (.inr h)
        · exact .inr ⟨id, hi, h⟩
theorem zns_mem (l : List Sm.St) (z : Int) (ids : List Int) : z ∈ zns l ids ↔ ∃ id ∈ ids, ∃ d, at_ l id = some d ∧ d.2.1 = z := by
  have := zfold_mem l z ids []
  simpa [zns] using this
theorem zns_sub {l : List Sm.St} {R : List Int} (hR : Zs l R) (ids : List Int) : ∀ z ∈ zns l ids, z ∈ R := by
  intro z hz
  obtain ⟨id, hi, d, hd, rfl⟩ := (zns_mem l z ids).1 hz
  exact (hR.2.1 _).2 ⟨d, (at_mem hd).1, rfl⟩
theorem zns_le {l : List Sm.St} {R : List Int} (hR : Zs l R) (ids : List Int) : (zns l ids).length ≤ R.length := sub_len _ _ (zns_nodup l ids) (zns_sub hR ids)
theorem zns_pos {l : List Sm.St} {p : List Int} (hk : known l p = true) (h : 1 ≤ p.length) : 1 ≤ (zns l p).length := by
  have hm : p[0] ∈ p := List.getElem_mem (by omega)
  obtain ⟨d, _, _, e⟩ := at_some (List.all_eq_true.1 hk _ hm)
  exact List.length_pos_of_mem ((zns_mem l d.2.1 p).2 ⟨p[0], hm, d, e, rfl⟩)

theorem sum_add {α : Type} (f g : α → Nat) (l : List α) : (l.map fun d => f d + g d).sum = (l.map f).sum + (l.map g).sum := by
  induction l with
  | nil => rfl
  | cons a r ih => simp only [List.map_cons, List.sum_cons, ih]; omega
theorem sum_zero {α : Type} (l : List α) : (l.map fun _ => 0).sum = 0 := by
  induction l with
  | nil => rfl
  | cons a r ih => simp only [List.map_cons, List.sum_cons, ih]
theorem one_sum {l : List Sm.St} {x : Int} (hn : (l.map fun d => d.1).Nodup) : (l.map fun d => if x = d.1 then 1 else 0).sum = if (∃ d ∈ l, d.1 = x) then 1 else 0 := by
  induction l with
  | nil => simp
  | cons a r ih =>
    rw [List.map_cons, List.nodup_cons] at hn
    rw [List.map_cons, List.sum_cons, ih hn.2]
    by_cases h : x = a.1
    · have hno : ¬ ∃ d ∈ r, d.1 = x := fun ⟨d, hd, e⟩ => hn.1 (List.mem_map.2 ⟨d, hd, by rw [e, h]⟩)
      have hyes : ∃ d ∈ a :: r, d.1 = x := ⟨a, List.mem_cons_self, h.symm⟩
      rw [if_pos h, if_neg hno, if_pos hyes]
    · have e : (∃ d ∈ a :: r, d.1 = x) ↔ ∃ d ∈ r, d.1 = x := by
        constructor
        · rintro ⟨d, hd, e⟩
          rcases List.mem_cons.1 hd with rfl | hd
          · exact absurd e.symm h
          · exact ⟨d, hd, e⟩
        · rintro ⟨d, hd, e⟩
          exact ⟨d, List.mem_cons_of_mem _ hd, e⟩
      rw [if_neg h]
      simp only [e, Nat.zero_add]
theorem count_sum {l : List Sm.St} (hd : devs l = true) : ∀ (p : List Int), known l p = true → (l.map fun d => p.count d.1).sum = p.length
  | [], _ => by simp only [List.count_nil, sum_zero, List.length_nil]
  | x :: r, hk => by
    unfold known at hk
    rw [List.all_cons, Bool.and_eq_true] at hk
    obtain ⟨d, h1, h2, _⟩ := at_some hk.1
    have e : (fun d : Sm.St => (x :: r).count d.1) = fun d => r.count d.1 + if x = d.1 then 1 else 0 := by
      funext d
      rw [List.count_cons]
      by_cases h : x = d.1 <;> simp [h]
    rw [e, sum_add, count_sum hd r hk.2, one_sum (ids_nodup hd), if_pos ⟨d, h1, h2⟩, List.length_cons]
theorem loads_sum {l : List Sm.St} (hd : devs l = true) (reps : Nat) : ∀ (ps : List (List Int)), (∀ p ∈ ps, known l p = true ∧ p.length = reps) → (l.map fun d => load ps d.1).sum = reps * ps.length
  | [], _ => by simp only [load_nil, sum_zero, List.length_nil, Nat.mul_zero]
  | p :: r, h => by
    have e : (fun d : Sm.St => load (p :: r) d.1) = fun d => p.count d.1 + load r d.1 := by
      funext d
      simp [load]
    rw [e, sum_add, count_sum hd p (h p List.mem_cons_self).1, (h p List.mem_cons_self).2, loads_sum hd reps r (fun q hq => h q (List.mem_cons_of_mem _ hq)), List.length_cons, Nat.mul_succ]
    omega

/-- not heavier -/
def NotH (ps : List (List Int)) (a b : Sm.St) : Prop := ¬ ((load ps b.1 : Int) + 1) * a.2.2 < ((load ps a.1 : Int) + 1) * b.2.2
theorem NotH.trans {ps : List (List Int)} {a b c : Sm.St} (ha : 1 ≤ a.2.2) (hb : 1 ≤ b.2.2) (hc : 1 ≤ c.2.2) (h1 : NotH ps a b) (h2 : NotH ps b c) : NotH ps a c := by
  unfold NotH at h1 h2 ⊢
  rw [Int.not_lt] at h1 h2 ⊢
  generalize (load ps a.1 : Int) + 1 = A at h1 h2 ⊢
  generalize (load ps b.1 : Int) + 1 = B at h1 h2 ⊢
  generalize (load ps c.1 : Int) + 1 = C at h1 h2 ⊢
  generalize a.2.2 = x at *
  generalize b.2.2 = y at *
  generalize c.2.2 = z at *
  have e1 : A * y * z ≤ B * x * z := Int.mul_le_mul_of_nonneg_right h1 (by omega)
  have e2 : B * z * x ≤ C * y * x := Int.mul_le_mul_of_nonneg_right h2 (by omega)
  have e3 : (A * z) * y ≤ (C * x) * y := by
    have a1 : A * z * y = A * y * z := by rw [Int.mul_assoc, Int.mul_comm z y, ← Int.mul_assoc]
    have a2 : B * x * z = B * z * x := by rw [Int.mul_assoc, Int.mul_comm x z, ← Int.mul_assoc]
    have a3 : C * y * x = C * x * y := by rw [Int.mul_assoc, Int.mul_comm y x, ← Int.mul_assoc]
    omega
  exact Int.le_of_mul_le_mul_right e3 (by omega)
theorem NotH.refl (ps : List (List Int)) (a : Sm.St) : NotH ps a a := Int.lt_irrefl _
theorem fold_min (ps : List (List Int)) : ∀ (L : List Sm.St) (b x : Sm.St), (∀ d ∈ L, 1 ≤ d.2.2) → 1 ≤ b.2.2 → L.foldl (lstep ps) (some b) = some x → NotH ps x b ∧ 1 ≤ x.2.2 ∧ ∀ d ∈ L, NotH ps x d
  | [], b, x, _, hb, h => by
    cases h
    exact ⟨NotH.refl _ _, hb, fun d hd => by cases hd⟩
  | d :: L, b, x, hL, hb, h => by
    rw [List.foldl_cons] at h
    unfold lstep at h
    dsimp only at h
    have hd := hL d List.mem_cons_self
    have hL' := fun e he => hL e (List.mem_cons_of_mem d he)
    split at h
    · next hl =>
      obtain ⟨h1, h2, h3⟩ := fold_min ps L d x hL' hd h
      refine ⟨NotH.trans h2 hd hb h1 (fun h' => ?_), h2, fun e he => ?_⟩
      · omega
      · rcases List.mem_cons.1 he with rfl | he
        · exact h1
        · exact h3 e he
    · next hl =>
      obtain ⟨h1, h2, h3⟩ := fold_min ps L b x hL' hb h
      refine ⟨h1, h2, fun e he => ?_⟩
      rcases List.mem_cons.1 he with rfl | he
      · exact NotH.trans h2 hb hd h1 hl
      · exact h3 e he
theorem lfold_min {ps : List (List Int)} {L : List Sm.St} {x : Sm.St} (hL : ∀ d ∈ L, 1 ≤ d.2.2) (h : lfold ps L = some x) : ∀ d ∈ L, NotH ps x d := by
  cases L with
  | nil => cases h
  | cons b L =>
    obtain ⟨h1, h2, h3⟩ := fold_min ps L b x (fun d hd => hL d (List.mem_cons_of_mem _ hd)) (hL b List.mem_cons_self) h
    intro d hd
    rcases List.mem_cons.1 hd with rfl | hd
    · exact h1
    · exact h3 d hd
theorem devs_weight {l : List Sm.St} (hd : devs l = true) {d : Sm.St} (h : d ∈ l) : (0 ≤ d.1 ∧ d.1 ≤ 20) ∧ 1 ≤ d.2.2 ∧ d.2.2 ≤ 1000 := by
  have := (devs_dev hd).2 d h
  unfold dev at this
  simp only [Bool.and_eq_true, decide_eq_true_eq] at this
  omega
theorem open_mem {p Z : List Int} {l : List Sm.St} {d : Sm.St} (h : d ∈ openL p Z l) : d ∈ l ∧ d.1 ∉ p := by
  unfold openL at h
  split at h
  · have := List.mem_filter.1 h
    simp only [Bool.and_eq_true, Bool.not_eq_true', decide_eq_false_iff_not] at this
    exact ⟨this.1, this.2.1⟩
  · have := List.mem_filter.1 h
    simp only [Bool.and_eq_true, Bool.not_eq_true', decide_eq_false_iff_not] at this
    exact ⟨this.1, this.2.1⟩
/-- what the best device is, where one is left -/
theorem best_is {l : List Sm.St} (hd : devs l = true) (ps : List (List Int)) (p : List Int) (h : ∃ e ∈ l, e.1 ∉ p) :
    ∃ d ∈ l, best ps p l = d.1 ∧ d.1 ∉ p ∧ ((∃ e ∈ l, e.1 ∉ p ∧ e.2.1 ∉ zns l p) → d.2.1 ∉ zns l p) ∧
      ∀ e ∈ l, e.1 ∉ p → (e.2.1 ∉ zns l p ↔ d.2.1 ∉ zns l p) → NotH ps d e := by
  have hne : ¬ (openL p (zns l p) l).length = 0 := by
    intro h0
    obtain ⟨e, he, hp⟩ := h
    unfold openL at h0
    by_cases hz : e.2.1 ∈ zns l p
    · split at h0
      · have hm : e ∈ otherL p (zns l p) l := List.mem_filter.2 ⟨he, by simp [hp, hz]⟩
        have := List.length_pos_of_mem hm
        omega
      · contradiction
    · have hm : e ∈ freshL p (zns l p) l := List.mem_filter.2 ⟨he, by simp [hp, hz]⟩
      have := List.length_pos_of_mem hm
      split at h0
      · omega
      · omega
  obtain ⟨d, hb⟩ := lfold_ne (ps := ps) hne
  have hm := lfold_mem hb
  have hdl := open_mem hm
  refine ⟨d, hdl.1, by rw [best_open ps p hd, hb], hdl.2, ?_, ?_⟩
  · rintro ⟨e, he, hp, hz⟩
    have hf : e ∈ freshL p (zns l p) l := List.mem_filter.2 ⟨he, by simp [hp, hz]⟩
    have := List.length_pos_of_mem hf
    unfold openL at hm
    rw [if_neg (by omega)] at hm
    have := (List.mem_filter.1 hm).2
    simp only [Bool.and_eq_true, Bool.not_eq_true', decide_eq_false_iff_not] at this
    exact this.2
  · intro e he hp hz
    refine lfold_min (fun x hx => (devs_weight hd (open_mem hx).1).2.1) hb e ?_
    unfold openL at hm ⊢
    split at hm
    · next h0 =>
      rw [if_pos h0]
      have := (List.mem_filter.1 hm).2
      simp only [Bool.and_eq_true, Bool.not_eq_true', decide_eq_true_eq] at this
      have hz' : e.2.1 ∈ zns l p := Classical.byContradiction fun hc => (hz.1 hc) this.2
      exact List.mem_filter.2 ⟨he, by simp [hp, hz']⟩
    · next h0 =>
      rw [if_neg h0]
      have := (List.mem_filter.1 hm).2
      simp only [Bool.and_eq_true, Bool.not_eq_true', decide_eq_false_iff_not] at this
      exact List.mem_filter.2 ⟨he, by simp [hp, hz.2 this.2]⟩
theorem best_none {l : List Sm.St} (hd : devs l = true) (ps : List (List Int)) (p : List Int) (h : best ps p l = -1) : ∀ e ∈ l, e.1 ∈ p := by
  intro e he
  refine Classical.byContradiction fun hp => ?_
  obtain ⟨d, h1, h2, _⟩ := best_is hd ps p ⟨e, he, hp⟩
  have := (devs_weight hd h1).1
  omega
theorem zns_snoc {l : List Sm.St} {p : List Int} {d : Sm.St} (h : at_ l d.1 = some d) : (zns l (p ++ [d.1])).length = (zns l p).length + if d.2.1 ∈ zns l p then 0 else 1 := by
  have e : zns l (p ++ [d.1]) = zadd l (zns l p) d.1 := by
    unfold zns
    rw [List.foldl_append]
    rfl
  rw [e]
  unfold zadd
  rw [h]
  dsimp only
  split
  · rfl
  · simp
theorem left_one {l : List Sm.St} (hd : devs l = true) {p : List Int} (h : p.length < l.length) : ∃ e ∈ l, e.1 ∉ p := by
  refine Classical.byContradiction fun hc => ?_
  have := sub_len _ p (ids_nodup hd) (fun x hx => by
    obtain ⟨e, he, rfl⟩ := List.mem_map.1 hx
    exact Classical.byContradiction fun hp => hc ⟨e, he, hp⟩)
  rw [List.length_map] at this
  omega
/-- a part that grows: no two alike, all of devices, in as many zones as may be -/
theorem grow_good {l : List Sm.St} {R : List Int} (hd : devs l = true) (hR : Zs l R) (ps : List (List Int)) : ∀ (k : Nat), k ≤ l.length →
    (grow l ps k).Nodup ∧ known l (grow l ps k) = true ∧ (zns l (grow l ps k)).length = min k R.length
  | 0, _ => ⟨List.nodup_nil, rfl, by simp [grow, zns]⟩
  | k + 1, hk => by
    obtain ⟨h1, h2, h3⟩ := grow_good hd hR ps k (by omega)
    have hl := grow_len l ps k
    show (grow l ps k ++ [best (ps ++ [grow l ps k]) (grow l ps k) l]).Nodup ∧ known l (grow l ps k ++ [best (ps ++ [grow l ps k]) (grow l ps k) l]) = true ∧ (zns l (grow l ps k ++ [best (ps ++ [grow l ps k]) (grow l ps k) l])).length = _
    generalize grow l ps k = p at *
    obtain ⟨d, g1, g2, g3, g4, _⟩ := best_is hd (ps ++ [p]) p (left_one hd (by omega))
    rw [g2]
    have ha := at_self hd g1
    refine ⟨?_, ?_, ?_⟩
    · rw [List.nodup_append]
      refine ⟨h1, by simp, fun a ha b hb e => ?_⟩
      rw [List.mem_singleton] at hb
      subst hb
      exact g3 (e ▸ ha)
    · unfold known at h2 ⊢
      rw [List.all_append, h2]
      simp [ha]
    · rw [zns_snoc ha]
      have hle := zns_le hR p
      by_cases hlt : (zns l p).length < R.length
      · have hz : d.2.1 ∉ zns l p := by
          refine g4 ?_
          refine Classical.byContradiction fun hc => ?_
          have := sub_len R (zns l p) (hR.1.imp (fun h => by omega)) (fun z hz => by
            obtain ⟨e, he, rfl⟩ := (hR.2.1 z).1 hz
            refine Classical.byContradiction fun hnz => hc ⟨e, he, fun hp => hnz ?_, hnz⟩
            exact (zns_mem l _ p).2 ⟨e.1, hp, e, at_self hd he, rfl⟩)
          omega
        rw [if_neg hz]
        omega
      · have hz : d.2.1 ∈ zns l p := by
          refine Classical.byContradiction fun hc => ?_
          have hn : (zns l p ++ [d.2.1]).Nodup := by
            rw [List.nodup_append]
            refine ⟨zns_nodup l p, by simp, fun a ha b hb e => ?_⟩
            rw [List.mem_singleton] at hb
            subst hb
            exact hc (e ▸ ha)
          have := sub_len _ R hn (fun z hz => by
            rcases List.mem_append.1 hz with hz | hz
            · exact zns_sub hR p z hz
            · rw [List.mem_singleton] at hz
              exact (hR.2.1 z).2 ⟨d, g1, hz.symm⟩)
          rw [List.length_append] at this
          simp at this
          omega
        rw [if_pos hz]
        omega
theorem parts_good {l : List Sm.St} {R : List Int} (hd : devs l = true) (hR : Zs l R) {reps : Nat} (hr : reps ≤ l.length) : ∀ (n : Nat), ∀ p ∈ parts l reps n, p.Nodup ∧ known l p = true ∧ p.length = reps ∧ (zns l p).length = min reps R.length
  | 0, p, hp => by cases hp
  | n + 1, p, hp => by
    rcases List.mem_append.1 hp with hp | hp
    · exact parts_good hd hR hr n p hp
    · rw [List.mem_singleton] at hp
      subst hp
      obtain ⟨h1, h2, h3⟩ := grow_good hd hR (parts l reps n) reps hr
      exact ⟨h1, h2, grow_len _ _ _, h3⟩
theorem parts_ring {l : List Sm.St} {R : List Int} (hd : devs l = true) (hR : Zs l R) {reps n : Nat} (hr : reps ≤ l.length) (hr1 : 1 ≤ reps) (hr5 : reps ≤ 5) (hn1 : 1 ≤ n) (hn : n ≤ 64) : ringB reps (parts l reps n) l = true := by
  have h : (parts l reps n).all (partOk reps l) = true := by
    rw [List.all_eq_true]
    intro p hp
    obtain ⟨h1, h2, h3, _⟩ := parts_good hd hR hr n p hp
    simp [partOk, partB, h1, h2, h3]
  unfold ringB
  rw [h, parts_len]
  simp [headB, hd]
  omega

/-- loads of a ring that is being built of devices that are alike: none two above another, and what the last part has is not below what it has not -/
def Ev (l : List Sm.St) (ps : List (List Int)) (p : List Int) : Prop :=
  (∀ x ∈ l, ∀ y ∈ l, load (ps ++ [p]) x.1 ≤ load (ps ++ [p]) y.1 + 1) ∧ ∀ x ∈ l, ∀ y ∈ l, x.1 ∈ p → y.1 ∉ p → load (ps ++ [p]) y.1 ≤ load (ps ++ [p]) x.1
theorem load_grow (ps : List (List Int)) (p : List Int) (b id : Int) : load (ps ++ [p ++ [b]]) id = load (ps ++ [p]) id + if b = id then 1 else 0 := by
  rw [load_snoc, load_snoc, List.count_append, List.count_singleton]
  by_cases h : b = id <;> simp [h] <;> omega
theorem ev_grow {l : List Sm.St} {W Z : Int} (hd : devs l = true) (hw : ∀ d ∈ l, d.2.2 = W) (hz : ∀ d ∈ l, d.2.1 = Z) (ps : List (List Int)) (h0 : Ev l ps []) : ∀ (k : Nat), k ≤ l.length → Ev l ps (grow l ps k)
  | 0, _ => h0
  | k + 1, hk => by
    have ih := ev_grow hd hw hz ps h0 k (by omega)
    have hl := grow_len l ps k
    show Ev l ps (grow l ps k ++ [best (ps ++ [grow l ps k]) (grow l ps k) l])
    generalize grow l ps k = p at *
    obtain ⟨d, g1, g2, g3, _, g5⟩ := best_is hd (ps ++ [p]) p (left_one hd (by omega))
    rw [g2]
    have hmin : ∀ e ∈ l, e.1 ∉ p → load (ps ++ [p]) d.1 ≤ load (ps ++ [p]) e.1 := by
      intro e he hp
      have h := g5 e he hp (by rw [hz e he, hz d g1])
      unfold NotH at h
      rw [hw d g1, hw e he, Int.not_lt] at h
      have hW := (devs_weight hd g1).2.1
      rw [hw d g1] at hW
      have := Int.le_of_mul_le_mul_right h (by omega)
      omega
    have hinj : ∀ x ∈ l, d.1 = x.1 → x = d := fun x hx e => by
      have h1 := at_self hd hx
      rw [← e, at_self hd g1] at h1
      exact (Option.some.inj h1).symm
    refine ⟨fun x hx y hy => ?_, fun x hx y hy hxp hyp => ?_⟩
    · rw [load_grow, load_grow]
      have h1 := ih.1 x hx y hy
      by_cases e : d.1 = x.1
      · by_cases e2 : d.1 = y.1
        · rw [if_pos e, if_pos e2]; omega
        · rw [if_pos e, if_neg e2]
          have : load (ps ++ [p]) d.1 ≤ load (ps ++ [p]) y.1 := by
            by_cases hyp : y.1 ∈ p
            · exact ih.2 y hy d g1 hyp g3
            · exact hmin y hy hyp
          rw [← e]
          omega
      · rw [if_neg e]
        omega
    · rw [load_grow, load_grow]
      rw [List.mem_append, List.mem_singleton] at hxp hyp
      have hyd : ¬ d.1 = y.1 := fun e => hyp (.inr e.symm)
      have hyp' : y.1 ∉ p := fun h => hyp (.inl h)
      rw [if_neg hyd]
      rcases hxp with hxp | hxp
      · have := ih.2 x hx y hy hxp hyp'
        omega
      · have := ih.1 y hy d g1
        rw [if_pos hxp.symm, hxp]
        omega
theorem load_empty (ps : List (List Int)) (id : Int) : load (ps ++ [[]]) id = load ps id := by rw [load_snoc]; simp
theorem ev_parts {l : List Sm.St} {W Z : Int} (hd : devs l = true) (hw : ∀ d ∈ l, d.2.2 = W) (hz : ∀ d ∈ l, d.2.1 = Z) {reps : Nat} (hr : reps ≤ l.length) : ∀ (n : Nat), ∀ x ∈ l, ∀ y ∈ l, load (parts l reps n) x.1 ≤ load (parts l reps n) y.1 + 1
  | 0, x, _, y, _ => by simp [parts, load]
  | n + 1, x, hx, y, hy => by
    have ih := ev_parts hd hw hz hr n
    refine (ev_grow hd hw hz (parts l reps n) ⟨fun a ha b hb => ?_, fun a ha b hb h => by cases h⟩ reps hr).1 x hx y hy
    rw [load_empty, load_empty]
    exact ih a ha b hb
end Go.Proofs.Ytcejeiakgmamdac.Rg
