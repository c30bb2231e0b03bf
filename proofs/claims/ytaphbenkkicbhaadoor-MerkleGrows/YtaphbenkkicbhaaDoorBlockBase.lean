/- Small facts on rows of bytes and of numbers in memory, for the walks of Block and Sum. -/
import Derived.Test.YtaphbenkkicbhaaDoorBlockMath
import Derived.Test.YtaphbenkkicbhaaDoorRefKey
import Derived.Test.YtaphbenkkicbhaaDoorCut
namespace Go.Proofs.YtaphbenkkicbhaaDoor
open Go.RowKit
set_option linter.unusedVariables false

theorem Tryd.info32 : (Tryd.prog.info? 67).map (fun i => (i.zero, i.size, i.bytes)) = some (some (.int .u32 0), 1, 4) := by kernel_rfl

/-- a piece of a row of bytes -/
theorem Bts.piece {w : World} {g n : Nat} {b : List Int} (hc : ∀ j, j < b.length → w.cell? ⟨g, j, none⟩ = some (.int .u8 (b.getD j 0))) (hb : Byt b) (hg : g < w.heap.size) (o m cap : Nat) (h : o + m ≤ b.length) (hcap : m ≤ cap) (hm : cap ≤ maxLen) :
    Bts w (some ⟨g, o, none⟩) m cap ((b.drop o).take m) := by
  refine ⟨by rw [List.length_take, List.length_drop]; omega, fun c hc' => hb c (List.mem_of_mem_drop (List.mem_of_mem_take hc')), hcap, hm, (fun hh => by cases hh), fun _ => ⟨g, o, rfl, hg, fun i hi => ?_⟩⟩
  rw [hc (o + i) (by omega)]
  simp only [List.getD_eq_getElem?_getD, List.getElem?_take, List.getElem?_drop, if_pos hi]
theorem bv_cell {w : World} {g : Nat} {b : List Int} {t : TypeId} (hg : w.heap[g]? = some (.cells (bv b).toArray t (0, 0))) (j : Nat) (hj : j < b.length) : w.cell? ⟨g, j, none⟩ = some (.int .u8 (b.getD j 0)) := by
  rw [cell_of_row w g j _ t (0, 0) hg]
  simp [bv, hj, List.getD_eq_getElem?_getD]
theorem sch_lo (b : List Int) (k : Nat) (h : k < 16) : sch b (k + 1) = sch b k ++ [w4 b k] := by simp [sch, h]
theorem sch_hi (b : List Int) (k : Nat) (h : 16 ≤ k) : sch b (k + 1) = sch b k ++ [wx (sch b k) k] := by simp [sch, show ¬ k < 16 by omega]
/-- behind an append of one number to a row of numbers of 32 bits -/
theorem row_rel {B : Nat} {w wr w1 : World} {p q : List Int} {n : Nat} {v v' : Value} {c : Int} {o : Obj} (hb : Below B w wr) (hB : B ≤ wr.heap.size)
    (hown : wr.ownsRow B 67 1 v n (uv p))
    (h1 : w1.ownsRow B 67 1 v' (n + 1) (uv p ++ [.int .u32 c])) (hg : (wr.alloc o).grownBy w1 v.ownBlock) (hq : q = p ++ [c]) :
    w1.ownsRow B 67 1 v' (n + 1) (uv q) ∧ Below B w w1 := by
  refine ⟨by rw [hq, uv_append]; exact h1, ?_⟩
  refine (hb.alloc hB o).grown hg (by simp; omega) ?_
  intro g hg'
  exact (hown.lt g hg').1

theorem row_cell {w : World} {base g n cap : Nat} {p : List Int} (h : w.ownsRow base 67 1 (.slice (some ⟨g, 0, none⟩) n cap) n (uv p)) (hp : p.length = n) (j : Nat) (hj : j < n) : w.cell? ⟨g, j, none⟩ = some (.int .u32 (p.getD j 0)) := by
  rw [h.cellAt j (by omega)]; exact uv_getD p j (by omega)
theorem st_cell {w : World} {N : Nat} {s : St} {t : TypeId} (h : w.heap[N]? = some (.cells s.cells t (0, 0))) :
    w.cell? ⟨N, 0, none⟩ = some (.int .u32 s.a) ∧ w.cell? ⟨N, 1, none⟩ = some (.int .u32 s.b) ∧ w.cell? ⟨N, 2, none⟩ = some (.int .u32 s.c) ∧ w.cell? ⟨N, 3, none⟩ = some (.int .u32 s.d) ∧
    w.cell? ⟨N, 4, none⟩ = some (.int .u32 s.e) ∧ w.cell? ⟨N, 5, none⟩ = some (.int .u32 s.f) ∧ w.cell? ⟨N, 6, none⟩ = some (.int .u32 s.g) ∧ w.cell? ⟨N, 7, none⟩ = some (.int .u32 s.h) := by
  refine ⟨?_, ?_, ?_, ?_, ?_, ?_, ?_, ?_⟩ <;> rw [cell_of_row w N _ _ t (0, 0) h] <;> rfl
theorem keep_cell {wr wX w1 : World} {p : Addr} {v : Value} (h : wX.cell? p = some v ∧ Below wr.heap.size wr wX) (hb : Below wX.heap.size wX w1) : w1.cell? p = some v ∧ Below wr.heap.size wr w1 :=
  ⟨(hb.cell (block_lt_of_cell h.1)).trans h.1, bstep h.2 hb⟩
theorem not_eq {e : Int} (h : U32 e) : bits .xor .u32 IntKind.u32.max e = nt e := by
  have h1 := h.1; have h2 := h.2
  have hm : IntKind.u32.max = 4294967295 := rfl
  rw [hm, u32_xor _ _ (by decide) (by decide) h1 h2]
  obtain ⟨x, rfl⟩ := Int.eq_ofNat_of_zero_le h1
  have hx : x < 2 ^ 32 := by omega
  have e : 4294967295 ^^^ x = 4294967295 - x := by
    have := BitVec.toNat_not (x := BitVec.ofNat 32 x)
    rw [BitVec.toNat_ofNat, Nat.mod_eq_of_lt hx] at this
    have h3 : (~~~ (BitVec.ofNat 32 x)) = BitVec.allOnes 32 ^^^ BitVec.ofNat 32 x := by rw [BitVec.allOnes_xor]
    rw [h3, BitVec.toNat_xor, BitVec.toNat_allOnes, BitVec.toNat_ofNat, Nat.mod_eq_of_lt hx] at this
    simpa using this
  show ((Int.toNat 4294967295 ^^^ Int.toNat (x : Int) : Nat) : Int) = _
  rw [Int.toNat_natCast, show Int.toNat 4294967295 = 4294967295 from rfl, e]
  unfold nt; omega
end Go.Proofs.YtaphbenkkicbhaaDoor
