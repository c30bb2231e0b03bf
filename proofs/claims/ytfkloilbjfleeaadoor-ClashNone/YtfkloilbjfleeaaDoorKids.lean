/- What a node is made of; whether a beginning is a piece of the tree; the way up to the root. -/
import Derived.Test.YtfkloilbjfleeaaDoorCText
import Derived.Test.YtfkloilbjfleeaaDoorSteps
namespace Go.Proofs.YtfkloilbjfleeaaDoor
open Go.RowKit
set_option linter.unusedVariables false

set_option maxRecDepth 100000 in
theorem fold_set_at (o : Nat) : ∀ (l : List Value) (k : Nat) (cs : Array Value), o + (k + l.length) ≤ cs.size →
    ((l.zipIdx k).foldl (fun (cs : Array Value) (p : Value × Nat) => cs.setIfInBounds (o + p.2) p.1) cs).size = cs.size ∧ ∀ j, ((l.zipIdx k).foldl (fun (cs : Array Value) (p : Value × Nat) => cs.setIfInBounds (o + p.2) p.1) cs)[j]? = if o + k ≤ j ∧ j < o + (k + l.length) then l[j - (o + k)]? else cs[j]? := by
  intro l
  induction l with
  | nil => intro k cs _; exact ⟨rfl, fun j => by rw [if_neg (by rw [List.length_nil]; omega)]; rfl⟩
  | cons v r ih =>
    intro k cs hl
    rw [List.length_cons] at hl
    rw [List.zipIdx_cons, List.foldl_cons]
    obtain ⟨h1, h2⟩ := ih (k + 1) (cs.setIfInBounds (o + k) v) (by simp; omega)
    refine ⟨by rw [h1]; simp, fun j => ?_⟩
    rw [h2 j, List.length_cons]
    by_cases hj : j = o + k
    · subst hj
      rw [if_neg (by omega), if_pos (by omega), Array.getElem?_setIfInBounds, if_pos rfl, if_pos (by omega), Nat.sub_self]; rfl
    · by_cases hj2 : o + (k + 1) ≤ j ∧ j < o + (k + 1 + r.length)
      · rw [if_pos hj2, if_pos (by omega), show j - (o + k) = j - (o + (k + 1)) + 1 from by omega]; simp
      · rw [if_neg hj2, if_neg (by omega)]
        simp [Ne.symm hj]
set_option maxRecDepth 100000 in
theorem fill_part (o : Nat) (y : List Int) (cs : Array Value) (h : o + y.length ≤ cs.size) :
    ((bv y).toArray.zipIdx.foldl (fun (cs : Array Value) (p : Value × Nat) => cs.setIfInBounds (o + p.2) p.1) cs).size = cs.size ∧ ∀ j, ((bv y).toArray.zipIdx.foldl (fun (cs : Array Value) (p : Value × Nat) => cs.setIfInBounds (o + p.2) p.1) cs)[j]? = if o ≤ j ∧ j < o + y.length then (bv y)[j - o]? else cs[j]? := by
  have h0 := fold_set_at o (bv y) 0 cs (by rw [bv_length]; omega)
  rw [bv_length] at h0
  have hzi : (bv y).toArray.zipIdx = ((bv y).zipIdx).toArray := by simp
  rw [hzi]
  simp only [List.foldl_toArray]
  simpa using h0
set_option maxRecDepth 100000 in
theorem two_build (y z : List Int) (hy : y.length = 32) (hz : z.length = 32) (w : World) : (Instr.build 86 #[(0, .agg (bv y).toArray), (1, .agg (bv z).toArray)]).run Tryd.prog w = .ok (.agg (bv (y ++ z)).toArray) w := by
  refine run_build w _ _ _ ?_
  have h1 : (Tryd.prog.info? 86).map (fun i => i.zero) = some (some (.agg #[.int .u8 0, .int .u8 0, .int .u8 0, .int .u8 0, .int .u8 0, .int .u8 0, .int .u8 0, .int .u8 0, .int .u8 0, .int .u8 0, .int .u8 0, .int .u8 0, .int .u8 0, .int .u8 0, .int .u8 0, .int .u8 0, .int .u8 0, .int .u8 0, .int .u8 0, .int .u8 0, .int .u8 0, .int .u8 0, .int .u8 0, .int .u8 0, .int .u8 0, .int .u8 0, .int .u8 0, .int .u8 0, .int .u8 0, .int .u8 0, .int .u8 0, .int .u8 0, .int .u8 0, .int .u8 0, .int .u8 0, .int .u8 0, .int .u8 0, .int .u8 0, .int .u8 0, .int .u8 0, .int .u8 0, .int .u8 0, .int .u8 0, .int .u8 0, .int .u8 0, .int .u8 0, .int .u8 0, .int .u8 0, .int .u8 0, .int .u8 0, .int .u8 0, .int .u8 0, .int .u8 0, .int .u8 0, .int .u8 0, .int .u8 0, .int .u8 0, .int .u8 0, .int .u8 0, .int .u8 0, .int .u8 0, .int .u8 0, .int .u8 0, .int .u8 0])) := by kernel_rfl
  have h2 : (Tryd.prog.info? 42).map (fun i => i.size) = some 32 := by kernel_rfl
  have hu : ∃ n, Tryd.prog.underlying 86 = some (.array n 42) := ⟨2, by kernel_rfl⟩
  obtain ⟨n, hu⟩ := hu
  obtain ⟨it, hit, hz0⟩ := Option.map_eq_some_iff.1 h1
  obtain ⟨ie, hie, hs0⟩ := Option.map_eq_some_iff.1 h2
  unfold Program.built
  simp only [hit, hu, hz0, hie, hs0]
  have hc : (Value.agg #[.int .u8 0, .int .u8 0, .int .u8 0, .int .u8 0, .int .u8 0, .int .u8 0, .int .u8 0, .int .u8 0, .int .u8 0, .int .u8 0, .int .u8 0, .int .u8 0, .int .u8 0, .int .u8 0, .int .u8 0, .int .u8 0, .int .u8 0, .int .u8 0, .int .u8 0, .int .u8 0, .int .u8 0, .int .u8 0, .int .u8 0, .int .u8 0, .int .u8 0, .int .u8 0, .int .u8 0, .int .u8 0, .int .u8 0, .int .u8 0, .int .u8 0, .int .u8 0, .int .u8 0, .int .u8 0, .int .u8 0, .int .u8 0, .int .u8 0, .int .u8 0, .int .u8 0, .int .u8 0, .int .u8 0, .int .u8 0, .int .u8 0, .int .u8 0, .int .u8 0, .int .u8 0, .int .u8 0, .int .u8 0, .int .u8 0, .int .u8 0, .int .u8 0, .int .u8 0, .int .u8 0, .int .u8 0, .int .u8 0, .int .u8 0, .int .u8 0, .int .u8 0, .int .u8 0, .int .u8 0, .int .u8 0, .int .u8 0, .int .u8 0, .int .u8 0]).cells.size = 64 := rfl
  generalize (Value.agg #[.int .u8 0, .int .u8 0, .int .u8 0, .int .u8 0, .int .u8 0, .int .u8 0, .int .u8 0, .int .u8 0, .int .u8 0, .int .u8 0, .int .u8 0, .int .u8 0, .int .u8 0, .int .u8 0, .int .u8 0, .int .u8 0, .int .u8 0, .int .u8 0, .int .u8 0, .int .u8 0, .int .u8 0, .int .u8 0, .int .u8 0, .int .u8 0, .int .u8 0, .int .u8 0, .int .u8 0, .int .u8 0, .int .u8 0, .int .u8 0, .int .u8 0, .int .u8 0, .int .u8 0, .int .u8 0, .int .u8 0, .int .u8 0, .int .u8 0, .int .u8 0, .int .u8 0, .int .u8 0, .int .u8 0, .int .u8 0, .int .u8 0, .int .u8 0, .int .u8 0, .int .u8 0, .int .u8 0, .int .u8 0, .int .u8 0, .int .u8 0, .int .u8 0, .int .u8 0, .int .u8 0, .int .u8 0, .int .u8 0, .int .u8 0, .int .u8 0, .int .u8 0, .int .u8 0, .int .u8 0, .int .u8 0, .int .u8 0, .int .u8 0, .int .u8 0]).cells = cs at hc
  have hcy : (Value.agg (bv y).toArray).cells = (bv y).toArray := rfl
  have hcz : (Value.agg (bv z).toArray).cells = (bv z).toArray := rfl
  have hsy : (bv y).toArray.size = 32 := by rw [List.size_toArray, bv_length, hy]
  have hsz : (bv z).toArray.size = 32 := by rw [List.size_toArray, bv_length, hz]
  obtain ⟨a1, a2⟩ := fill_part (0 * 32) y cs (by omega)
  obtain ⟨b1, b2⟩ := fill_part (1 * 32) z ((bv y).toArray.zipIdx.foldl (fun (cs : Array Value) (p : Value × Nat) => cs.setIfInBounds (0 * 32 + p.2) p.1) cs) (by omega)
  simp only [Instr.fill, hcy, hcz]
  rw [if_neg (by rw [hsy, hc]; decide), if_neg (by rw [hsz, a1, hc]; decide)]
  congr 1
  apply Array.ext_getElem?
  intro j
  have hR : (bv (y ++ z)).toArray[j]? = (bv y ++ bv z)[j]? := by rw [List.getElem?_toArray, bv_append]
  rw [b2 j, a2 j, hR]
  by_cases hj : j < 32
  · rw [if_neg (by omega), if_pos (by omega), List.getElem?_append_left (by rw [bv_length]; omega)]
    simp
  · by_cases hj2 : j < 64
    · rw [if_pos (by omega), List.getElem?_append_right (by rw [bv_length]; omega), bv_length, hy]
    · rw [if_neg (by omega), if_neg (by omega), Array.getElem?_eq_none (by omega), List.getElem?_eq_none (by rw [List.length_append, bv_length, bv_length]; omega)]
set_option maxRecDepth 100000 in
theorem wpList_build_two {ops : Array Oper} {rest : List Oper} {o : Oper} {a : Act} {w : World} {Q : Exit → Act → World → Prop} (hgd : o.guard = none) (x y : Operand) (ho : o.op = .build 86 #[(0, x), (1, y)]) (A B Z : Array Value) (hx : a.eval x = .agg A) (hy : a.eval y = .agg B)
    (hb : (Instr.build 86 #[(0, .agg A), (1, .agg B)]).run Tryd.prog w = .ok (.agg Z) w) (h : wpList Tryd.prog ops Q rest (a.put o.dst (.agg Z)) w) : wpList Tryd.prog ops Q (o :: rest) a w :=
  wpList_plain hgd fun K hK => by
    unfold Oper.wp execOp
    simp [ho, hx, hy, hb]
    exact hK _ _ h
set_option maxRecDepth 100000 in
theorem two_info : (Tryd.prog.info? 86).map (·.size) = some 64 := by kernel_rfl

set_option maxRecDepth 100000 in
set_option maxHeartbeats 1000000 in
theorem children_any (d p : List Int) (b : Bool) (w : World) (hd : Dg d) (hp : Dg p) :
    Calls Tryd.prog 64 #[.agg (bv d).toArray, .agg (bv p).toArray, .bool b] w fun e w' => e = .returned (.agg (bv (kids b d p)).toArray) ∧ Below w.heap.size w w' := by
  have hb0 : Below w.heap.size w (((w.alloc (.cells (bv d).toArray 42)).alloc (.cells (bv p).toArray 42)).alloc (.cells #[.int .u8 0, .int .u8 0, .int .u8 0, .int .u8 0, .int .u8 0, .int .u8 0, .int .u8 0, .int .u8 0, .int .u8 0, .int .u8 0, .int .u8 0, .int .u8 0, .int .u8 0, .int .u8 0, .int .u8 0, .int .u8 0, .int .u8 0, .int .u8 0, .int .u8 0, .int .u8 0, .int .u8 0, .int .u8 0, .int .u8 0, .int .u8 0, .int .u8 0, .int .u8 0, .int .u8 0, .int .u8 0, .int .u8 0, .int .u8 0, .int .u8 0, .int .u8 0, .int .u8 0, .int .u8 0, .int .u8 0, .int .u8 0, .int .u8 0, .int .u8 0, .int .u8 0, .int .u8 0, .int .u8 0, .int .u8 0, .int .u8 0, .int .u8 0, .int .u8 0, .int .u8 0, .int .u8 0, .int .u8 0, .int .u8 0, .int .u8 0, .int .u8 0, .int .u8 0, .int .u8 0, .int .u8 0, .int .u8 0, .int .u8 0, .int .u8 0, .int .u8 0, .int .u8 0, .int .u8 0, .int .u8 0, .int .u8 0, .int .u8 0, .int .u8 0] 86)) := (((Below.refl _ _).alloc (Nat.le_refl _) _).alloc (by simp) _).alloc (by simp; omega) _
  have hd0 : (((w.alloc (.cells (bv d).toArray 42)).alloc (.cells (bv p).toArray 42)).alloc (.cells #[.int .u8 0, .int .u8 0, .int .u8 0, .int .u8 0, .int .u8 0, .int .u8 0, .int .u8 0, .int .u8 0, .int .u8 0, .int .u8 0, .int .u8 0, .int .u8 0, .int .u8 0, .int .u8 0, .int .u8 0, .int .u8 0, .int .u8 0, .int .u8 0, .int .u8 0, .int .u8 0, .int .u8 0, .int .u8 0, .int .u8 0, .int .u8 0, .int .u8 0, .int .u8 0, .int .u8 0, .int .u8 0, .int .u8 0, .int .u8 0, .int .u8 0, .int .u8 0, .int .u8 0, .int .u8 0, .int .u8 0, .int .u8 0, .int .u8 0, .int .u8 0, .int .u8 0, .int .u8 0, .int .u8 0, .int .u8 0, .int .u8 0, .int .u8 0, .int .u8 0, .int .u8 0, .int .u8 0, .int .u8 0, .int .u8 0, .int .u8 0, .int .u8 0, .int .u8 0, .int .u8 0, .int .u8 0, .int .u8 0, .int .u8 0, .int .u8 0, .int .u8 0, .int .u8 0, .int .u8 0, .int .u8 0, .int .u8 0, .int .u8 0, .int .u8 0] 86)).heap[w.heap.size]? = some (.cells (bv d).toArray 42 (0, 0)) := by rw [heap_alloc_old _ _ (by simp; omega), heap_alloc_old _ _ (by simp), heap_alloc_new]
  have hp0 : (((w.alloc (.cells (bv d).toArray 42)).alloc (.cells (bv p).toArray 42)).alloc (.cells #[.int .u8 0, .int .u8 0, .int .u8 0, .int .u8 0, .int .u8 0, .int .u8 0, .int .u8 0, .int .u8 0, .int .u8 0, .int .u8 0, .int .u8 0, .int .u8 0, .int .u8 0, .int .u8 0, .int .u8 0, .int .u8 0, .int .u8 0, .int .u8 0, .int .u8 0, .int .u8 0, .int .u8 0, .int .u8 0, .int .u8 0, .int .u8 0, .int .u8 0, .int .u8 0, .int .u8 0, .int .u8 0, .int .u8 0, .int .u8 0, .int .u8 0, .int .u8 0, .int .u8 0, .int .u8 0, .int .u8 0, .int .u8 0, .int .u8 0, .int .u8 0, .int .u8 0, .int .u8 0, .int .u8 0, .int .u8 0, .int .u8 0, .int .u8 0, .int .u8 0, .int .u8 0, .int .u8 0, .int .u8 0, .int .u8 0, .int .u8 0, .int .u8 0, .int .u8 0, .int .u8 0, .int .u8 0, .int .u8 0, .int .u8 0, .int .u8 0, .int .u8 0, .int .u8 0, .int .u8 0, .int .u8 0, .int .u8 0, .int .u8 0, .int .u8 0] 86)).heap[w.heap.size + 1]? = some (.cells (bv p).toArray 42 (0, 0)) := by rw [heap_alloc_old _ _ (by simp), show w.heap.size + 1 = (w.alloc (.cells (bv d).toArray 42)).heap.size from by simp, heap_alloc_new]
  have hr0 : ∃ cs : Array Value, cs.size = 64 ∧ (((w.alloc (.cells (bv d).toArray 42)).alloc (.cells (bv p).toArray 42)).alloc (.cells #[.int .u8 0, .int .u8 0, .int .u8 0, .int .u8 0, .int .u8 0, .int .u8 0, .int .u8 0, .int .u8 0, .int .u8 0, .int .u8 0, .int .u8 0, .int .u8 0, .int .u8 0, .int .u8 0, .int .u8 0, .int .u8 0, .int .u8 0, .int .u8 0, .int .u8 0, .int .u8 0, .int .u8 0, .int .u8 0, .int .u8 0, .int .u8 0, .int .u8 0, .int .u8 0, .int .u8 0, .int .u8 0, .int .u8 0, .int .u8 0, .int .u8 0, .int .u8 0, .int .u8 0, .int .u8 0, .int .u8 0, .int .u8 0, .int .u8 0, .int .u8 0, .int .u8 0, .int .u8 0, .int .u8 0, .int .u8 0, .int .u8 0, .int .u8 0, .int .u8 0, .int .u8 0, .int .u8 0, .int .u8 0, .int .u8 0, .int .u8 0, .int .u8 0, .int .u8 0, .int .u8 0, .int .u8 0, .int .u8 0, .int .u8 0, .int .u8 0, .int .u8 0, .int .u8 0, .int .u8 0, .int .u8 0, .int .u8 0, .int .u8 0, .int .u8 0] 86)).heap[w.heap.size + 1 + 1]? = some (.cells cs 86 (0, 0)) := ⟨#[.int .u8 0, .int .u8 0, .int .u8 0, .int .u8 0, .int .u8 0, .int .u8 0, .int .u8 0, .int .u8 0, .int .u8 0, .int .u8 0, .int .u8 0, .int .u8 0, .int .u8 0, .int .u8 0, .int .u8 0, .int .u8 0, .int .u8 0, .int .u8 0, .int .u8 0, .int .u8 0, .int .u8 0, .int .u8 0, .int .u8 0, .int .u8 0, .int .u8 0, .int .u8 0, .int .u8 0, .int .u8 0, .int .u8 0, .int .u8 0, .int .u8 0, .int .u8 0, .int .u8 0, .int .u8 0, .int .u8 0, .int .u8 0, .int .u8 0, .int .u8 0, .int .u8 0, .int .u8 0, .int .u8 0, .int .u8 0, .int .u8 0, .int .u8 0, .int .u8 0, .int .u8 0, .int .u8 0, .int .u8 0, .int .u8 0, .int .u8 0, .int .u8 0, .int .u8 0, .int .u8 0, .int .u8 0, .int .u8 0, .int .u8 0, .int .u8 0, .int .u8 0, .int .u8 0, .int .u8 0, .int .u8 0, .int .u8 0, .int .u8 0, .int .u8 0], rfl, by rw [show w.heap.size + 1 + 1 = ((w.alloc (.cells (bv d).toArray 42)).alloc (.cells (bv p).toArray 42)).heap.size from by simp, heap_alloc_new]⟩
  obtain ⟨cs, hcs, hr0⟩ := hr0
  have hk64 := kids_len (b := b) hd hp
  have HID : Bx ((Tryd.prog.info? 42).map (·.size) = some (bv d).toArray.size) := ⟨by rw [List.size_toArray, bv_length, hd.1]; exact dig_info⟩
  have HIP : Bx ((Tryd.prog.info? 42).map (·.size) = some (bv p).toArray.size) := ⟨by rw [List.size_toArray, bv_length, hp.1]; exact dig_info⟩
  have hbd : ∀ w : World, (Instr.build 86 (if b then #[(0, .agg (bv p).toArray), (1, .agg (bv d).toArray)] else #[(0, .agg (bv d).toArray), (1, .agg (bv p).toArray)])).run Tryd.prog w = .ok (.agg (bv (kids b d p)).toArray) w := by
    intro w
    cases b with
    | true => exact two_build p d hp.1 hd.1 w
    | false => exact two_build d p hd.1 hp.1 w
  have HD0 : Bx _ := ⟨hd0⟩
  have HP0 : Bx _ := ⟨hp0⟩
  obtain ⟨Z, hZ⟩ : ∃ Z, (bv (kids b d p)).toArray = Z := ⟨_, rfl⟩
  have hs : Z.size = 64 := by rw [← hZ, List.size_toArray, bv_length, hk64]
  have hth := there_row hr0
  rw [hcs] at hth
  have HTH : Bx ((((w.alloc (.cells (bv d).toArray 42)).alloc (.cells (bv p).toArray 42)).alloc (.cells #[.int .u8 0, .int .u8 0, .int .u8 0, .int .u8 0, .int .u8 0, .int .u8 0, .int .u8 0, .int .u8 0, .int .u8 0, .int .u8 0, .int .u8 0, .int .u8 0, .int .u8 0, .int .u8 0, .int .u8 0, .int .u8 0, .int .u8 0, .int .u8 0, .int .u8 0, .int .u8 0, .int .u8 0, .int .u8 0, .int .u8 0, .int .u8 0, .int .u8 0, .int .u8 0, .int .u8 0, .int .u8 0, .int .u8 0, .int .u8 0, .int .u8 0, .int .u8 0, .int .u8 0, .int .u8 0, .int .u8 0, .int .u8 0, .int .u8 0, .int .u8 0, .int .u8 0, .int .u8 0, .int .u8 0, .int .u8 0, .int .u8 0, .int .u8 0, .int .u8 0, .int .u8 0, .int .u8 0, .int .u8 0, .int .u8 0, .int .u8 0, .int .u8 0, .int .u8 0, .int .u8 0, .int .u8 0, .int .u8 0, .int .u8 0, .int .u8 0, .int .u8 0, .int .u8 0, .int .u8 0, .int .u8 0, .int .u8 0, .int .u8 0, .int .u8 0] 86)).there (w.heap.size + 1 + 1) 0 Z.size) := ⟨by rw [hs]; exact hth⟩
  have HI : Bx ((Tryd.prog.info? 86).map (·.size) = some Z.size) := ⟨by rw [hs]; exact two_info⟩
  have HO : Bx (Z.all (·.oneCell') = true) := ⟨by rw [← hZ]; exact all_oneCell_toArray (bv_one _)⟩
  have HST : Bx (((((w.alloc (.cells (bv d).toArray 42)).alloc (.cells (bv p).toArray 42)).alloc (.cells #[.int .u8 0, .int .u8 0, .int .u8 0, .int .u8 0, .int .u8 0, .int .u8 0, .int .u8 0, .int .u8 0, .int .u8 0, .int .u8 0, .int .u8 0, .int .u8 0, .int .u8 0, .int .u8 0, .int .u8 0, .int .u8 0, .int .u8 0, .int .u8 0, .int .u8 0, .int .u8 0, .int .u8 0, .int .u8 0, .int .u8 0, .int .u8 0, .int .u8 0, .int .u8 0, .int .u8 0, .int .u8 0, .int .u8 0, .int .u8 0, .int .u8 0, .int .u8 0, .int .u8 0, .int .u8 0, .int .u8 0, .int .u8 0, .int .u8 0, .int .u8 0, .int .u8 0, .int .u8 0, .int .u8 0, .int .u8 0, .int .u8 0, .int .u8 0, .int .u8 0, .int .u8 0, .int .u8 0, .int .u8 0, .int .u8 0, .int .u8 0, .int .u8 0, .int .u8 0, .int .u8 0, .int .u8 0, .int .u8 0, .int .u8 0, .int .u8 0, .int .u8 0, .int .u8 0, .int .u8 0, .int .u8 0, .int .u8 0, .int .u8 0, .int .u8 0] 86)).setCells (w.heap.size + 1 + 1) 0 Z.toList).heap[w.heap.size + 1 + 1]? = some (.cells Z 86 (0, 0))) := ⟨heap_stored (vs := Z) hr0 (by rw [hs, hcs])⟩
  have HBS : Bx (Below w.heap.size w ((((w.alloc (.cells (bv d).toArray 42)).alloc (.cells (bv p).toArray 42)).alloc (.cells #[.int .u8 0, .int .u8 0, .int .u8 0, .int .u8 0, .int .u8 0, .int .u8 0, .int .u8 0, .int .u8 0, .int .u8 0, .int .u8 0, .int .u8 0, .int .u8 0, .int .u8 0, .int .u8 0, .int .u8 0, .int .u8 0, .int .u8 0, .int .u8 0, .int .u8 0, .int .u8 0, .int .u8 0, .int .u8 0, .int .u8 0, .int .u8 0, .int .u8 0, .int .u8 0, .int .u8 0, .int .u8 0, .int .u8 0, .int .u8 0, .int .u8 0, .int .u8 0, .int .u8 0, .int .u8 0, .int .u8 0, .int .u8 0, .int .u8 0, .int .u8 0, .int .u8 0, .int .u8 0, .int .u8 0, .int .u8 0, .int .u8 0, .int .u8 0, .int .u8 0, .int .u8 0, .int .u8 0, .int .u8 0, .int .u8 0, .int .u8 0, .int .u8 0, .int .u8 0, .int .u8 0, .int .u8 0, .int .u8 0, .int .u8 0, .int .u8 0, .int .u8 0, .int .u8 0, .int .u8 0, .int .u8 0, .int .u8 0, .int .u8 0, .int .u8 0] 86)).setCells (w.heap.size + 1 + 1) 0 Z.toList)) := ⟨below_setCells hb0 _ (by omega) Z.toList 0⟩
  rw [hZ] at hbd ⊢
  clear hb0 hd0 hp0 hr0 hcs hth hs hZ hd hp hk64
  generalize (bv d).toArray = DD at hbd HID HD0 HP0 HTH HST HBS ⊢
  generalize (bv p).toArray = DP at hbd HIP HD0 HP0 HTH HST HBS ⊢
  cases b with
  | true =>
    have hbd2 : ∀ w : World, (Instr.build 86 #[(0, .agg DP), (1, .agg DD)]).run Tryd.prog w = .ok (.agg Z) w := hbd
    have HB2 : Bx _ := ⟨hbd2⟩
    clear hbd hbd2
    go_enter Tryd.func64, Tryd.ntmps64
    go_wp2_with (first
      | (refine wpList_load_row rfl 42 (.tmp 4) rfl (w.heap.size + 1) rfl 42 DP (0, 0) _ HP0.out Tryd.underlying42 rfl HIP.out ?_)
      | (refine wpList_load_row rfl 42 (.tmp 3) rfl w.heap.size rfl 42 DD (0, 0) _ HD0.out Tryd.underlying42 rfl HID.out ?_)
      | (refine wpList_build_two rfl (.tmp 8) (.tmp 9) rfl DP DD Z rfl rfl (HB2.out _) ?_)
      | (refine wpList_store_mid rfl 86 (.tmp 6) (.tmp 10) rfl (w.heap.size + 1 + 1) 0 Z rfl rfl ?ht HI.out HO.out ?_; (case ht => exact HTH.out)))
    exact bodyPost_ret (v := .agg Z) (results_cell_row rfl _ _ (w.heap.size + 1 + 1) 86 Z (0, 0) _ rfl HST.out Tryd.underlying86 rfl HI.out) rfl ⟨rfl, HBS.out⟩
  | false =>
    have hbd2 : ∀ w : World, (Instr.build 86 #[(0, .agg DD), (1, .agg DP)]).run Tryd.prog w = .ok (.agg Z) w := hbd
    have HB2 : Bx _ := ⟨hbd2⟩
    clear hbd hbd2
    go_enter Tryd.func64, Tryd.ntmps64
    go_wp2_with (first
      | (refine wpList_load_row rfl 42 (.tmp 3) rfl w.heap.size rfl 42 DD (0, 0) _ HD0.out Tryd.underlying42 rfl HID.out ?_)
      | (refine wpList_load_row rfl 42 (.tmp 4) rfl (w.heap.size + 1) rfl 42 DP (0, 0) _ HP0.out Tryd.underlying42 rfl HIP.out ?_)
      | (refine wpList_build_two rfl (.tmp 11) (.tmp 12) rfl DD DP Z rfl rfl (HB2.out _) ?_)
      | (refine wpList_store_mid rfl 86 (.tmp 6) (.tmp 13) rfl (w.heap.size + 1 + 1) 0 Z rfl rfl ?ht HI.out HO.out ?_; (case ht => exact HTH.out)))
    exact bodyPost_ret (v := .agg Z) (results_cell_row rfl _ _ (w.heap.size + 1 + 1) 86 Z (0, 0) _ rfl HST.out Tryd.underlying86 rfl HI.out) rfl ⟨rfl, HBS.out⟩

/-- the row behind s steps -/
def sideAt (S : List Bool) (n s : Nat) : List Bool := List.replicate (n - s) false ++ (S.take s).reverse
set_option maxRecDepth 100000 in
theorem sideAt_zero (S : List Bool) (n : Nat) : sideAt S n 0 = List.replicate n false := by simp [sideAt]
set_option maxRecDepth 100000 in
theorem sideAt_end (S : List Bool) (n : Nat) : sideAt S n n = (S.take n).reverse := by simp [sideAt]
set_option maxRecDepth 100000 in
theorem sideAt_no (S : List Bool) (n s : Nat) (h : s < n) (hs : s < S.length) (hb : S.getD s false = false) : sideAt S n s = sideAt S n (s + 1) := by
  unfold sideAt
  rw [List.take_succ_eq_append_getElem hs, List.reverse_append]
  rw [List.getD_eq_getElem?_getD, List.getElem?_eq_getElem hs] at hb
  have hb' : S[s] = false := hb
  rw [hb', show n - s = (n - (s + 1)) + 1 from by omega, List.replicate_succ']
  simp
set_option maxRecDepth 100000 in
theorem sideAt_yes (S : List Bool) (n s : Nat) (h : s < n) (hs : s < S.length) (hb : S.getD s false = true) : (bb (sideAt S n s)).set (n - 1 - s) (.bool true) = bb (sideAt S n (s + 1)) := by
  unfold sideAt
  rw [List.take_succ_eq_append_getElem hs, List.reverse_append]
  rw [List.getD_eq_getElem?_getD, List.getElem?_eq_getElem hs] at hb
  have hb' : S[s] = true := hb
  rw [hb', show n - s = (n - (s + 1)) + 1 from by omega, List.replicate_succ', bb_append, bb_append, List.append_assoc, List.set_append_right _ _ (by rw [bb_length]; simp; omega)]
  rw [bb_length, List.length_replicate, show n - 1 - s - (n - (s + 1)) = 0 from by omega]
  simp [bb]

set_option maxRecDepth 100000 in
set_option maxHeartbeats 1000000 in
theorem sides_any (n i k : Nat) (w : World) (hn : 1 ≤ n) (hn63 : n ≤ 9223372036854775807) (hi : i < n) (hk : k ≤ (stepsL n i).length) :
    Calls Tryd.prog 63 #[.int .i64 n, .int .i64 i, .int .i64 k] w fun e w' => e = .returned (.slice (some ⟨w.heap.size, 0, none⟩) k k) ∧ w'.ownsRow w.heap.size 4 1 (.slice (some ⟨w.heap.size, 0, none⟩) k k) k (bb ((stepsL n i).take k).reverse) ∧ Below w.heap.size w w' := by
  have hbits := stepsL_bits 63 n i (by omega)
  have hk63 : k ≤ 63 := by omega
  obtain ⟨i0, hi0, hz0, hz1, hz2⟩ := info_parts Tryd.info4
  go_enter Tryd.func63, Tryd.ntmps63
  go_wp2_with (at_make; refine wpList_make_full _ rfl _ _ 51 rfl w.heap.size 4 i0 (.bool false) 1 Tryd.underlying51 hi0 hz0 hz1 _ _ _ _ k rfl rfl rfl rfl (by rw [hz2]; omega) (by unfold maxLen; omega) (Nat.le_refl _) ?_)
  intro w1 hown hgrow
  have HRP : Hid (List.replicate k (Value.bool false) = bb (sideAt (stepsL n i) k 0)) := by show _ = _; rw [sideAt_zero]; simp [bb]
  rw [toList_madeCells_one, HRP.out] at hown
  have hb1 : Below w.heap.size w w1 := (Below.refl _ _).grown hgrow (Nat.le_refl _) (by intro k hk; cases hk)
  clear hgrow hi0 hz0 hz1 hz2 HRP
  go_wp2
  go_loopw [0, 1, 13] (fun vn vi vs wr => ∃ (p q s : Nat), 1 ≤ p ∧ p ≤ n ∧ q < p ∧ s ≤ k ∧ vn = .int .i64 p ∧ vi = .int .i64 q ∧ vs = .int .i64 s ∧ (stepsL n i).drop s = stepsL p q ∧ wr.ownsRow w.heap.size 4 1 (.slice (some ⟨w.heap.size, 0, none⟩) k k) k (bb (sideAt (stepsL n i) k s)) ∧ Below w.heap.size w wr) (fun _ _ vs _ => k - (intOf vs).toNat)
  case atStart => exact ⟨n, i, 0, hn, Nat.le_refl _, hi, Nat.zero_le _, rfl, rfl, rfl, rfl, hown, hb1⟩
  case round =>
    clear hown hb1
    obtain ⟨p, q, s, hp1, hpn, hqp, hsk, rfl, rfl, rfl, hdr, hown, hlow⟩ := hrel
    have HDR : Hid ((stepsL n i).drop s = stepsL p q) := hdr
    clear hdr
    by_cases hlt : s < k
    · have hsl : s < (stepsL n i).length := by omega
      have hgp : 2 ≤ p := by
        refine Classical.byContradiction fun h => ?_
        have e := congrArg List.length HDR.out
        rw [stepsL_one q (by omega), List.length_drop] at e
        simp at e; omega
      have hk1 := splitN_pos (n := p) hgp
      have hk2 := splitN_lt (n := p) (by omega)
      have HSP : Bx (∀ W, Calls Tryd.prog 60 #[.int .i64 (p : Int)] W fun e w' => e = .returned (.int .i64 (splitN p : Int)) ∧ W = w') := ⟨fun W => split_any (p : Int) W (by omega)⟩
      have hltI : (s : Int) < (k : Int) := by omega
      have hget : ∀ c rest, stepsL p q = c :: rest → (stepsL n i).getD s false = c ∧ (stepsL n i).drop (s + 1) = rest := by
        intro c rest h
        have e := HDR.out
        rw [h, List.drop_eq_getElem_cons hsl] at e
        obtain ⟨e1, e2⟩ := List.cons.inj e
        exact ⟨by rw [List.getD_eq_getElem?_getD, List.getElem?_eq_getElem hsl]; exact e1, e2⟩
      by_cases hqk : q < splitN p
      · obtain ⟨g1, g2⟩ := hget _ _ (stepsL_left hgp hqk)
        have HD2 : Hid ((stepsL n i).drop (s + 1) = stepsL (splitN p) q) := g2
        rw [sideAt_no (stepsL n i) k s hlt hsl g1] at hown
        have hki : (q : Int) < (splitN p : Int) := by omega
        clear hget g1 g2 HDR hsl hbits
        generalize splitN p = m at hk1 hk2 HSP hqk HD2 hki
        go_wp2_with fail
        refine (HSP.out _).mono ?_
        rintro e w' ⟨rfl, rfl⟩
        clear HSP
        go_wp2
        go_roundw
        case rel => exact ⟨m, q, s + 1, hk1, by omega, hqk, hlt, rfl, rfl, by go_num, HD2.out, hown, hlow⟩
        case measure => simp [intOf]; omega
      · obtain ⟨g1, g2⟩ := hget _ _ (stepsL_right hgp hqk)
        have HD2 : Hid ((stepsL n i).drop (s + 1) = stepsL (p - splitN p) (q - splitN p)) := g2
        obtain ⟨c0, hc⟩ := owns_cell hown (k - 1 - s) (by omega)
        have hf := hown.frozenAt (k - 1 - s)
        have hst := hown.stored (k - 1 - s) (.bool true)
        rw [sideAt_yes (stepsL n i) k s hlt hsl g1] at hst
        have hlow2 := hlow.grown hst.2 hlow.size (by intro j hj; cases hj; exact Nat.le_refl _)
        have hown2 := hst.1
        have hki : ¬ (q : Int) < (splitN p : Int) := by omega
        clear hget g1 g2 HDR hsl hbits hst hown
        generalize splitN p = m at hk1 hk2 HSP hqk HD2 hki
        go_wp2_with fail
        refine (HSP.out _).mono ?_
        rintro e w' ⟨rfl, rfl⟩
        clear HSP
        go_wp2
        go_roundw
        case rel => exact ⟨p - m, q - m, s + 1, by omega, by omega, by omega, hlt, by go_num, by go_num, by go_num, HD2.out, hown2, hlow2⟩
        case measure => simp [intOf]; omega
    · obtain rfl : s = k := by omega
      rw [sideAt_end] at hown
      clear HDR
      go_wp2
      go_ret
      exact ⟨rfl, hown, hlow⟩
end Go.Proofs.YtfkloilbjfleeaaDoor
