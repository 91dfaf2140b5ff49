/- One bit of a disk's bytes is turned: what the lists come to, what the memory comes to. -/
import Derived.Test.YtmappmboedpgmaqNwC
import Derived.Test.YtmappmboedpgmaqHkDk
import Derived.Test.YtmappmboedpgmaqDlS
namespace Go.Proofs.Ytmappmboedpgmaq.Wk
set_option linter.unusedVariables false
open Go.ChangeShapes Go.WideShapes Go.ChangeAt Go.RowKit

theorem csR_set : ∀ (rs : List Rw) (k : Nat) (x : Rw) (h : k < rs.length), x.1 = rs[k].1 → x.2.1 = rs[k].2.1 → csR (rs.set k x) = csR rs
  | [], k, x, h, _, _ => absurd h (by simp)
  | r :: t, 0, x, h, e1, e2 => by
    simp only [List.getElem_cons_zero] at e1 e2
    simp [csR, e1, e2]
  | r :: t, k + 1, x, h, e1, e2 => by
    have := csR_set t k x (by simpa using h) (by simpa using e1) (by simpa using e2)
    unfold csR at this ⊢
    simp [this]
theorem vals_set (rs : List Rw) (k : Nat) (x : Rw) (h : k < rs.length) (e : x.2.1 = rs[k].2.1) : vals (rs.set k x) = vals rs := by
  unfold vals
  have h' : k < (rs.map fun r => r.2.1).length := by simpa using h
  have e' : x.2.1 = (rs.map fun r => r.2.1)[k] := by simp [e]
  rw [List.map_set, e', List.set_getElem_self]
theorem nds_set (rs : List Rw) (k : Nat) (x : Rw) : nds (rs.set k x) = (nds rs).set k (x.1, x.2.2) := by simp [nds, mapN, List.map_set]
theorem mem_set_row {rs : List Rw} {k : Nat} {x r : Rw} (hr : r ∈ rs.set k x) : r = x ∨ ∃ (j : Nat) (h : j < rs.length), j ≠ k ∧ r = rs[j] := by
  obtain ⟨j, hj, rfl⟩ := List.mem_iff_getElem.1 hr
  by_cases e : j = k
  · subst e
    exact .inl (by simp)
  · refine .inr ⟨j, by simpa using hj, e, ?_⟩
    rw [List.getElem_set_ne (fun h => e h.symm)]

theorem nds_at {rs : List Rw} {l : List Nd} (e : nds rs = l) (k : Nat) (h : k < rs.length) (hl : k < l.length) : rs[k].1 = l[k].1 ∧ rs[k].2.2 = l[k].2 := by
  subst e
  have := nds_get rs k h
  rw [this]
  exact ⟨rfl, rfl⟩
/-- the row k with other bytes -/
def rowP (rs : List Rw) (k : Nat) (h : k < rs.length) (p : List UInt8) : List Rw := rs.set k (rs[k].1, rs[k].2.1, p)
theorem rowP_nds {rs : List Rw} {l : List Nd} (e : nds rs = l) (k : Nat) (h : k < rs.length) (p : List UInt8) (hl : k < l.length) : nds (rowP rs k h p) = l.set k (l[k].1, p) := by
  subst e
  unfold rowP
  rw [nds_set, nds_get rs k h]
theorem OwnD.turn1 {w : World} {base g c n i : Nat} {v1 v2 : Value} {r1 r2 : List Rw} (h : OwnD w base v1 v2 r1 r2) (k : Nat) (hk : k < r1.length) (e : r1[k].2.1 = .slice (some ⟨g, 0, none⟩) n c) (y : UInt8) :
    OwnD (w.setCell ⟨g, i, none⟩ (.int .u8 (y.toNat : Int))) base v1 v2 (rowP r1 k hk (r1[k].2.2.set i y)) r2 ∧ w.grownBy (w.setCell ⟨g, i, none⟩ (.int .u8 (y.toNat : Int))) (some g) ∧ base ≤ g := by
  have hk0 := h.2.2.1 r1[k] (List.getElem_mem hk)
  unfold OwnB at hk0
  rw [e] at hk0
  have hn : n = r1[k].2.2.length := by
    rcases hk0.2 with ⟨e0, e1⟩ | ⟨g', cap, cur, e0, -⟩
    · cases e0
    · simp at e0; exact e0.2.1
  subst hn
  obtain ⟨hs, hg⟩ := hk0.stored i (.int .u8 (y.toNat : Int))
  rw [By_set] at hs
  have hlt := World.ownsRow.lt hk0 g rfl
  obtain ⟨o1, o2, y1, y2, p⟩ := id h
  obtain ⟨p1, p⟩ := List.pairwise_cons.1 p
  obtain ⟨p2, p⟩ := List.pairwise_cons.1 p
  obtain ⟨q1, q2, q3⟩ := List.pairwise_append.1 p
  have hmem : r1[k].2.1 ∈ vals r1 := List.mem_map.2 ⟨_, List.getElem_mem hk, rfl⟩
  have far : ∀ {u : Value}, Apart u r1[k].2.1 → u.ownBlock = none ∨ u.ownBlock ≠ some g := by
    intro u hu
    rw [e] at hu
    exact hu
  refine ⟨⟨?_, ?_, ?_, ?_, ?_⟩, hg, hlt.1⟩
  · have := o1.kept hg (far (p1 _ (List.mem_cons_of_mem _ (List.mem_append_left _ hmem))))
    unfold rowP
    rw [csR_set r1 k (r1[k].1, r1[k].2.1, r1[k].2.2.set i y) hk rfl rfl, List.length_set]
    exact this
  · exact o2.kept hg (far (p2 _ (List.mem_append_left _ hmem)))
  · intro r hr
    rcases mem_set_row hr with rfl | ⟨j, hj, hne, rfl⟩
    · unfold OwnB
      dsimp only
      rw [e, List.length_set]
      exact hs
    · exact World.ownsRow.kept (y1 _ (List.getElem_mem hj)) hg (far (apartAt q1 hj hk hne))
  · intro r hr
    exact World.ownsRow.kept (y2 r hr) hg (far (Apart.symm (q3 _ hmem _ (List.mem_map.2 ⟨r, hr, rfl⟩))))
  · unfold rowP
    rw [vals_set r1 k (r1[k].1, r1[k].2.1, r1[k].2.2.set i y) hk rfl]
    exact h.2.2.2.2
theorem OwnD.turn2 {w : World} {base g c n i : Nat} {v1 v2 : Value} {r1 r2 : List Rw} (h : OwnD w base v1 v2 r1 r2) (k : Nat) (hk : k < r2.length) (e : r2[k].2.1 = .slice (some ⟨g, 0, none⟩) n c) (y : UInt8) :
    OwnD (w.setCell ⟨g, i, none⟩ (.int .u8 (y.toNat : Int))) base v1 v2 r1 (rowP r2 k hk (r2[k].2.2.set i y)) ∧ w.grownBy (w.setCell ⟨g, i, none⟩ (.int .u8 (y.toNat : Int))) (some g) ∧ base ≤ g := by
  obtain ⟨h1, h2, h3⟩ := h.swap.turn1 (i := i) k hk e y
  exact ⟨h1.swap, h2, h3⟩
/-- what the walk of a row meets: the list's address, the row's cell, the bytes' address, the byte -/
theorem OwnD.at1 {w : World} {base n c : Nat} {a : Option Addr} {v2 : Value} {r1 r2 : List Rw} (h : OwnD w base (.slice a n c) v2 r1 r2) (k : Nat) (hk : k < r1.length) (i : Nat) (hi : i < r1[k].2.2.length) :
    ∃ ga g cg, a = some ⟨ga, 0, none⟩ ∧ n = r1.length ∧ w.cell? ⟨ga, k * 2 + 1, none⟩ = some (.slice (some ⟨g, 0, none⟩) r1[k].2.2.length cg) ∧ r1[k].2.1 = .slice (some ⟨g, 0, none⟩) r1[k].2.2.length cg ∧
      w.cell? ⟨g, i, none⟩ = some (.int .u8 (r1[k].2.2[i].toNat : Int)) ∧ w.frozen? ⟨g, i, none⟩ = false ∧ base ≤ g := by
  obtain ⟨g, cg, eg, hgb, -⟩ := World.ownsRow.form (h.2.2.1 r1[k] (List.getElem_mem hk)) (by omega)
  obtain ⟨ga, ca, ea, -, -⟩ := World.ownsRow.form h.1 (by omega)
  cases ea
  have hb := h.2.2.1 r1[k] (List.getElem_mem hk)
  unfold OwnB at hb
  rw [eg] at hb
  refine ⟨ga, g, cg, rfl, rfl, ?_, eg, ?_, World.ownsRow.frozenAt hb i, hgb⟩
  · rw [World.ownsRow.cellAt h.1 (k * 2 + 1) (by omega), (csR_get r1 k hk).2, eg]
  · rw [World.ownsRow.cellAt hb i (by omega)]; exact By_get _ i hi

/-- bytes that are read as a text, wherever they are -/
theorem convTx (a : Option Addr) (cap : Nat) (data : List UInt8) (hc : a = none → cap = 0) (w : World) (hr : RdA w a data) :
    (convert 55 9 (.slice a data.length cap)).run Try.prog w = .ok (.string ⟨data.toArray⟩) w := by
  cases a with
  | none =>
    have hm : data = [] := by
      cases data with
      | nil => rfl
      | cons y r =>
        obtain ⟨_, _, e, _⟩ := hr 0 (by simp)
        cases e
    subst hm
    obtain rfl := hc rfl
    rw [List.length_nil, run_convert_bytes_string (P := Try.prog) w 55 9 5 none 0 0 Try.underlying55 Try.underlying5 Try.underlying9]
    simp only [Conv.bytesToString]
    rfl
  | some ad =>
    refine run_convert_bytes_back (P := Try.prog) w 55 9 5 ad cap data Try.underlying55 Try.underlying5 Try.underlying9 ?_
    intro j hj
    obtain ⟨b, off, e, h⟩ := hr j hj
    cases e
    rw [Go.WideShapes.add_plain, h]

/-- one bit turned, as a number: the n-th of a byte -/
def tbN (c : UInt8) (n : Nat) : UInt8 := UInt8.ofNat (c.toNat ^^^ 2 ^ (n % 8))
theorem tbN_bits (c : UInt8) (n : Nat) : bits .xor .u8 (c.toNat : Int) (IntKind.u8.wrap ((2 : Int) ^ (n % 8))) = ((tbN c n).toNat : Int) := by
  have hc : c.toNat < 256 := c.toNat_lt
  have hp : 2 ^ (n % 8) < 256 := Nat.lt_of_le_of_lt (Nat.pow_le_pow_right (by decide) (show n % 8 ≤ 7 by omega)) (by decide)
  have hp0 : 0 < 2 ^ (n % 8) := Nat.pow_pos (by decide)
  have e3 : IntKind.u8.wrap ((2 : Int) ^ (n % 8)) = ((2 ^ (n % 8) : Nat) : Int) := by
    rw [IntKind.wrap_u8', show ((2 : Int) ^ (n % 8)) = ((2 ^ (n % 8) : Nat) : Int) from by rw [Int.natCast_pow]; rfl]; omega
  rw [e3, u8_xor_nat c.toNat _ hc hp]
  have hx : c.toNat ^^^ 2 ^ (n % 8) < 2 ^ 8 := Nat.xor_lt_two_pow hc hp
  unfold tbN
  rw [UInt8.toNat_ofNat', Nat.mod_eq_of_lt hx]
theorem tbN_u (c : UInt8) (n : Nat) : bits .xor .u8 (c.toNat : Int) (IntKind.u8.wrap (2 ^ min (IntKind.u64.wrap (((n : Nat) : Int).tmod 8)).toNat 8)) = ((tbN c n).toNat : Int) := by
  have e1 : ((n : Int).tmod 8) = ((n % 8 : Nat) : Int) := by rw [Int.tmod_eq_emod_of_nonneg (by omega)]; omega
  have e2 : IntKind.u64.wrap ((n % 8 : Nat) : Int) = ((n % 8 : Nat) : Int) := by simp [IntKind.wrap, IntKind.bits, IntKind.signed]; omega
  rw [e1, e2, Int.toNat_natCast, Nat.min_eq_left (by omega)]
  exact tbN_bits c n
theorem tbN_i (c : UInt8) (n : Nat) : bits .xor .u8 (c.toNat : Int) (IntKind.u8.wrap (2 ^ min (((n : Nat) : Int).tmod 8).toNat 8)) = ((tbN c n).toNat : Int) := by
  have e1 : ((n : Int).tmod 8) = ((n % 8 : Nat) : Int) := by rw [Int.tmod_eq_emod_of_nonneg (by omega)]; omega
  rw [e1, Int.toNat_natCast, Nat.min_eq_left (by omega)]
  exact tbN_bits c n
theorem tbN_m (c : UInt8) (n : Nat) : bits .xor .u8 (c.toNat : Int) ((2 : Int) ^ (n % 8) % 256) = ((tbN c n).toNat : Int) := by
  rw [← tbN_bits, IntKind.wrap_u8']
/-- the bytes p, their n-th bit turned -/
def turnP (p : List UInt8) (n : Nat) : List UInt8 := if h : n / 8 < p.length then p.set (n / 8) (tbN p[n / 8] n) else p
/-- the list l, the n-th bit of its k-th row's bytes turned -/
def turnL (l : List Nd) (k n : Nat) : List Nd := if h : k < l.length then l.set k (l[k].1, turnP l[k].2 n) else l
theorem turnL_len (l : List Nd) (k n : Nat) : (turnL l k n).length = l.length := by
  unfold turnL
  split <;> simp
def bytesAt (l : List Nd) (k : Nat) : List UInt8 := if h : k < l.length then l[k].2 else []
/-- the n-th bit of the k-th row: what the walk meets, and what the store leaves -/
theorem OwnD.turnAt {w : World} {base m c : Nat} {a : Option Addr} {v2 : Value} {r1 r2 : List Rw} {l1 : List Nd} (h : OwnD w base (.slice a m c) v2 r1 r2) (e : nds r1 = l1) (k : Nat) (hl : k < l1.length) (n : Nat) (hn : n / 8 < l1[k].2.length) :
    ∃ (ga g cg : Nat) (b : UInt8) (r1' : List Rw), a = some ⟨ga, 0, none⟩ ∧ w.cell? ⟨ga, k * 2 + 1, none⟩ = some (.slice (some ⟨g, 0, none⟩) l1[k].2.length cg) ∧ w.cell? ⟨g, n / 8, none⟩ = some (.int .u8 (b.toNat : Int)) ∧ w.frozen? ⟨g, n / 8, none⟩ = false ∧
      base ≤ g ∧ BlkS (.slice a m c) r1 g ∧ OwnD (w.setCell ⟨g, n / 8, none⟩ (.int .u8 ((tbN b n).toNat : Int))) base (.slice a m c) v2 r1' r2 ∧ nds r1' = turnL l1 k n ∧ w.grownBy (w.setCell ⟨g, n / 8, none⟩ (.int .u8 ((tbN b n).toNat : Int))) (some g) := by
  subst e
  have hr : k < r1.length := by rw [← nds_len]; exact hl
  have hg := nds_get r1 k hr
  have hn' : n / 8 < r1[k].2.2.length := by rw [hg] at hn; exact hn
  obtain ⟨ga, g, cg, ha, -, q0, q1, q2, q3, q4⟩ := h.at1 k hr (n / 8) hn'
  obtain ⟨o, gr, -⟩ := h.turn1 (i := n / 8) k hr q1 (tbN r1[k].2.2[n / 8] n)
  refine ⟨ga, g, cg, r1[k].2.2[n / 8], _, ha, by rw [hg]; exact q0, q2, q3, q4, .inr ⟨_, List.getElem_mem hr, by rw [q1]; rfl⟩, o, ?_, gr⟩
  rw [rowP_nds rfl k hr _ hl]
  unfold turnL
  rw [dif_pos hl, hg]
  unfold turnP
  rw [dif_pos hn']
/-- whether Sure has the same bytes of the name, and where -/
def twin (l2 : List Nd) (s : ByteArray) (p : List UInt8) : Option Nat := match ndAt l2 s with
  | some m => if bytesAt l2 m = p then some m else none
  | none => none
def turnO (l : List Nd) (o : Option Nat) (n : Nat) : List Nd := match o with
  | some m => turnL l m n
  | none => l
/-- what RotBit comes to -/
noncomputable def rotL (l1 l2 : List Nd) (s : ByteArray) (n : Int) : Bool × List Nd × List Nd :=
  if (listOk l1 && listOk l2) = true then match ndAt l1 s with
    | none => (false, l1, l2)
    | some k => if 0 ≤ n ∧ n.toNat / 8 < (bytesAt l1 k).length then (true, turnL l1 k n.toNat, turnO l2 (twin l2 s (bytesAt l1 k)) n.toNat) else (false, l1, l2)
  else (false, l1, l2)
end Go.Proofs.Ytmappmboedpgmaq.Wk
