/- A position as a map's key. No walk. -/
import Derived.Test.YtbjeeefkbmdmfaaLne
import Derived.DeepKeys4
namespace Go.Proofs.Ytbjeeefkbmdmfaa
open Go.RowKit
set_option linter.unusedVariables false
open Go.MapKept Go.Maps

set_option maxRecDepth 100000 in
theorem laid18 : laidOutB Try.prog = true := by kernel_rfl
set_option maxRecDepth 100000 in
theorem spot_keyed : Keyed Try.prog 72 := Keyed.of_law (deep_law_laid laid18 (m := 5) (by decide) (of_decide_eq_true (by kernel_rfl)) (by kernel_rfl) (by kernel_rfl))
set_option maxRecDepth 100000 in
theorem tsz18 : Try.prog.types.size + 1 = Try.prog.types.size - 5 + 1 + 1 + 1 + 1 + 1 + 1 := by kernel_rfl
set_option maxRecDepth 100000 in
theorem cell_s : Try.prog.cellsOf 72 = 5 := by kernel_rfl
set_option maxRecDepth 100000 in
theorem cell_u : Try.prog.cellsOf 60 = 1 := by kernel_rfl
set_option maxRecDepth 100000 in
theorem cell_l : Try.prog.cellsOf 2 = 1 := by kernel_rfl
set_option maxRecDepth 100000 in
theorem cell_st : Try.prog.cellsOf 70 = 4 := by kernel_rfl
set_option maxRecDepth 100000 in
theorem kt18 : Try.prog.keyType 72 = true := by kernel_rfl
section
variable {P : Program} {t e f : TypeId} {q r : IntKind} {d : Nat}
set_option maxRecDepth 100000 in
theorem lits_int (hu : P.underlying t = some (.int q)) {n : Int} (hw : (Lit.int q n).wf = true) : P.keyLits (d + 1) t [.int q n] = some [.int q n] := by
  unfold Program.keyLits
  rw [hu]
  simp only
  simp [hw]
set_option maxRecDepth 100000 in
theorem lits_four (hu : P.underlying t = some (.array 4 e)) (he : P.underlying e = some (.int q)) (ht : P.cellsOf t = 4) (hc : P.cellsOf e = 1) {a b c g : Int} (ha : (Lit.int q a).wf = true) (hb : (Lit.int q b).wf = true) (hcc : (Lit.int q c).wf = true) (hg : (Lit.int q g).wf = true) :
    P.keyLits (d + 1 + 1) t [.int q a, .int q b, .int q c, .int q g] = some [.int q a, .int q b, .int q c, .int q g] := by
  have h1 := fun n hw => lits_int (d := d) he (n := n) hw
  unfold Program.keyLits
  rw [hu]
  simp only
  rw [if_pos (by rw [ht]; rfl), hc]
  show Option.map List.flatten ([0, 1, 2, 3].mapM _) = _
  simp [h1 a ha, h1 b hb, h1 c hcc, h1 g hg]
set_option maxRecDepth 100000 in
theorem lits_pair {fs : Array Field} {f0 f1 : Field} (hu : P.underlying t = some (.struct fs)) (hfs : fs = #[f0, f1]) (h0 : f0.offset = 0) (h1 : f1.offset = 1) (hn : fs.all (·.name != "_") = true) (ht : P.cellsOf t = 5) (hc0 : P.cellsOf f0.type = 1) (hc1 : P.cellsOf f1.type = 4) {v a b c g : Value} {l0 l1 : List Lit} (hl0 : P.keyLits d f0.type [v] = some l0) (hl1 : P.keyLits d f1.type [a, b, c, g] = some l1) :
    P.keyLits (d + 1) t [v, a, b, c, g] = some (l0 ++ l1) := by
  unfold Program.keyLits
  rw [hu]
  simp only
  rw [if_pos ⟨by rw [ht]; rfl, hn⟩, hfs]
  simp [h0, h1, hc0, hc1, hl0, hl1]
end
set_option maxRecDepth 100000 in
theorem spot_key (x a b c d : Int) (hx : (Lit.int .u64 x).wf = true) (ha : (Lit.int .i64 a).wf = true) (hb : (Lit.int .i64 b).wf = true) (hc : (Lit.int .i64 c).wf = true) (hd : (Lit.int .i64 d).wf = true) : ∃ l, keyOf Try.prog 72 (.agg #[.int .u64 x, .int .i64 a, .int .i64 b, .int .i64 c, .int .i64 d]) = some l := by
  unfold keyOf
  rw [Try.underlying72]
  simp only
  have hf : Value.formed Try.prog 72 (.agg #[.int .u64 x, .int .i64 a, .int .i64 b, .int .i64 c, .int .i64 d]) = true := by
    simp [Value.formed, Try.underlying72, cell_s]
  have h4 := lits_four (d := Try.prog.types.size - 5 + 1 + 1 + 1) Try.underlying70 Try.underlying2 cell_st cell_l ha hb hc hd
  have h1 := lits_int (d := Try.prog.types.size - 5 + 1 + 1 + 1 + 1) Try.underlying60 hx
  have h5 := lits_pair Try.underlying72 rfl rfl rfl (by simp) cell_s cell_u cell_st h1 h4
  rw [if_pos (by rw [kt18, hf]; rfl), tsz18]
  exact ⟨_, by rw [show (Value.agg #[.int .u64 x, .int .i64 a, .int .i64 b, .int .i64 c, .int .i64 d]).cells.toList = [.int .u64 x, .int .i64 a, .int .i64 b, .int .i64 c, .int .i64 d] from rfl, h5]; rfl⟩
set_option maxRecDepth 100000 in
theorem wf_i64 {x : Int} (h : -9223372036854775808 ≤ x ∧ x ≤ 9223372036854775807) : (Lit.int .i64 x).wf = true := by
  simp [Lit.wf, IntKind.min, IntKind.max, IntKind.bits, IntKind.signed]; omega
set_option maxRecDepth 100000 in
theorem wf_u64 {x : Int} (h : 0 ≤ x ∧ x < 18446744073709551616) : (Lit.int .u64 x).wf = true := by
  simp [Lit.wf, IntKind.min, IntKind.max, IntKind.bits, IntKind.signed]; omega
/-- a position as a value -/
def psV (q : Ps) : Value := .agg #[.int .u64 (q.1 : Nat), .int .i64 (q.2.getD 0 0), .int .i64 (q.2.getD 1 0), .int .i64 (q.2.getD 2 0), .int .i64 (q.2.getD 3 0)]
set_option maxRecDepth 100000 in
theorem psk_v {n : Nat} {q : Ps} (h : PsK n q) (i : Nat) : V64 (q.2.getD i 0) := by
  rw [List.getD_eq_getElem?_getD]
  by_cases hi : i < q.2.length
  · rw [List.getElem?_eq_getElem hi]; exact h.v _ (List.getElem_mem hi)
  · rw [List.getElem?_eq_none (by omega)]; unfold V64; simp
set_option maxRecDepth 100000 in
theorem psk_key {n : Nat} {q : Ps} (h : PsK n q) (hn : n ≤ 64) : ∃ l, keyOf Try.prog 72 (psV q) = some l := by
  have hx : q.1 < 18446744073709551616 := Nat.lt_of_lt_of_le h.lt (Nat.le_trans (Nat.pow_le_pow_right (by decide) hn) (by decide))
  exact spot_key _ _ _ _ _ (wf_u64 (by omega)) (wf_i64 (psk_v h 0)) (wf_i64 (psk_v h 1)) (wf_i64 (psk_v h 2)) (wf_i64 (psk_v h 3))
set_option maxRecDepth 100000 in
theorem psV_inj {n : Nat} {a b : Ps} (ha : PsK n a) (hb : PsK n b) (h : psV a = psV b) : a = b := by
  obtain ⟨x, S⟩ := a
  obtain ⟨y, T⟩ := b
  obtain ⟨s0, s1, s2, s3, rfl⟩ : ∃ s0 s1 s2 s3, S = [s0, s1, s2, s3] := by
    match S, ha.four with
    | [a, b, c, d], _ => exact ⟨a, b, c, d, rfl⟩
  obtain ⟨t0, t1, t2, t3, rfl⟩ : ∃ t0 t1 t2 t3, T = [t0, t1, t2, t3] := by
    match T, hb.four with
    | [a, b, c, d], _ => exact ⟨a, b, c, d, rfl⟩
  simp [psV] at h
  obtain ⟨h0, h1, h2, h3, h4⟩ := h
  have h0 : x = y := by omega
  rw [h0, h1, h2, h3, h4]
set_option maxRecDepth 100000 in
theorem psV_mem {n : Nat} {q : Ps} {M : List Ps} (hq : PsK n q) (hM : ∀ y ∈ M, PsK n y) : psV q ∈ M.map psV ↔ q ∈ M := by
  rw [List.mem_map]
  constructor
  · rintro ⟨y, hy, e⟩
    rw [← psV_inj (hM y hy) hq e]; exact hy
  · exact fun h => ⟨q, h, rfl⟩
end Go.Proofs.Ytbjeeefkbmdmfaa
