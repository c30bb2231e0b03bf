/- What stands behind a head, as the document reads it. The document's own Whole. -/
import Derived.Test.YtdameoejigpnhaaGreatDoorWrq
import Derived.Test.YtdameoejigpnhaaGreatDoorWrs
import Derived.Test.YtdameoejigpnhaaGreatDoorWrj
import Derived.Test.YtdameoejigpnhaaGreatDoorSma
namespace Go.Proofs.YtdameoejigpnhaaGreatDoor
open Go.RowKit
set_option linter.unusedVariables false

def hxA (h : HD) (v : Value) : Array Value := #[.string h.m, .string h.t, .string h.k, v]
def hrA (h : HD) (v : Value) : Array Value := #[.string h.m, .string h.t, .string h.k, v, .bool h.auth, .bool h.len, .bool h.enc, .int .i64 (h.n : Int)]
variable {w wr w3 : World} {g : Nat} {h : HD} {v : Value} {b : List Int}
set_option maxRecDepth 100000 in
theorem hr_rng (r : wr.heap[g]? = some (.cells (hrA h v) 62 (0, 0))) : wr.rangeAt g 0 [.string h.m, .string h.t, .string h.k, v] := World.rangeAt_of_block r 0 4
set_option maxRecDepth 100000 in
theorem hr_n (r : wr.heap[g]? = some (.cells (hrA h v) 62 (0, 0))) : wr.cell? ⟨g, 7, none⟩ = some (.int .i64 (h.n : Int)) := by rw [cell_of_row wr g 7 _ _ (0, 0) r]; rfl
/-- the body is laid into the head -/
structure BE (w : World) (g : Nat) (h : HD) (v : Value) (b : List Int) (wr : World) : Prop where
  row : wr.heap[g]? = some (.cells (hrA h v) 62 (0, 0))
  res : wr.heap[w.heap.size]? = some (.cells reqZ 26 (0, 0))
  lt : g < w.heap.size
  kept : Kept (fun k => k = g) w wr
  own : wr.ownsRow (w.heap.size + 1) 5 1 v b.length (bv b)
set_option maxRecDepth 100000 in
theorem own_ge {base n : Nat} {l : List Int} (ho : wr.ownsRow base 5 1 v n (bv l)) : ∀ j, v.ownBlock = some j → base ≤ j := fun j hj => by
  rcases ho.2 with ⟨h1, _⟩ | ⟨g', cap', cur, hv, hg, _⟩
  · rw [h1] at hj; cases hj
  · rw [hv] at hj; cases hj; exact hg
set_option maxRecDepth 100000 in
theorem own_lo {base base' n : Nat} {l : List Int} (ho : wr.ownsRow base 5 1 v n (bv l)) (hb : base' ≤ base) : wr.ownsRow base' 5 1 v n (bv l) := by
  refine ⟨ho.1, ?_⟩
  rcases ho.2 with h1 | ⟨g', cap', cur, hv, hg, r⟩
  · exact .inl h1
  · exact .inr ⟨g', cap', cur, hv, by omega, r⟩
set_option maxRecDepth 100000 in
theorem BE.make (hm : RH w3 g h) (hg : g < w.heap.size) (hz : w3.heap[w.heap.size]? = some (.cells reqZ 26 (0, 0))) (hb : Below w.heap.size w w3) (ho : w3.ownsRow (w.heap.size + 1) 5 1 v b.length (bv b)) : BE w g h v b (w3.setCell ⟨g, 3, none⟩ v) :=
  ⟨heap_setCell_same w3 g 3 _ _ _ hm.row, (setCells_other (vs := [v]) (o := 3) (by omega)).trans hz, hg, kset1 (Kept.of_below hb) 3 v, owns_setCells (vs := [v]) (o := 3) ho (fun j hj => by have := own_ge ho j hj; omega)⟩
set_option maxRecDepth 100000 in
theorem BE.drew (r : BE w g h v b wr) : BE w g h v b wr.drew := ⟨r.row, r.res, r.lt, r.kept.drew, ⟨r.own.1, r.own.2⟩⟩
set_option maxRecDepth 100000 in
theorem BE.put (r : BE w g h v b wr) : wr.there w.heap.size 0 4 ∧ (wr.setCells w.heap.size 0 (hxA h v).toList).heap[w.heap.size]? = some (.cells (hxA h v) 26 (0, 0)) ∧ Kept (fun k => k = g) w (wr.setCells w.heap.size 0 (hxA h v).toList) ∧ (wr.setCells w.heap.size 0 (hxA h v).toList).ownsRow w.heap.size 5 1 v b.length (bv b) ∧ (wr.setCells w.heap.size 0 (hxA h v).toList).heap[g]? = some (.cells (hrA h v) 62 (0, 0)) := by
  have hlt := r.lt
  exact ⟨there_row r.res, heap_stored r.res rfl, r.kept.setCells (.inr (Nat.le_refl _)) _ 0, owns_setCells (own_lo r.own (by omega)) (fun j hj => by have := own_ge r.own j hj; omega), (setCells_other (by omega) _ _).trans r.row⟩
set_option maxRecDepth 100000 in
theorem run_len (most : Nat) : ∀ (l : List Int) (s : CS) (k : Nat), (runW most s l k).2.1 ≤ k + l.length
  | [], _, _ => Nat.zero_le _
  | b :: r, s, k => by
    rw [runW_cons]
    split
    · exact Nat.zero_le _
    · split
      · show k + 1 ≤ _; rw [List.length_cons]; omega
      · have := run_len most r (stp most s b).1 (k + 1); rw [List.length_cons]; omega
/-- what it answers -/
def BoP (T : WX × Nat × Int) (g : Nat) (w : World) (e : Ending) (w' : World) : Prop := ∃ v, e = .returned (.tuple #[reqV T.1 v, .int .i64 (T.2.1 : Int), .int .i64 T.2.2]) ∧ Byt T.1.b ∧ w'.ownsRow w.heap.size 5 1 v T.1.b.length (bv T.1.b) ∧ Kept (fun k => k = g) w w'
set_option maxRecDepth 100000 in
set_option maxHeartbeats 2000000 in
theorem rbody_any (g : Nat) (h : HD) (a : Option Addr) (len cap : Nat) (l : List Int) (p : Nat) (w : World) (hm : RH w g h) (hbt : Bts w a len cap l) (hp : p ≤ len) (hs : len ≤ 1000000) :
    Calls Tryz.prog 28 #[.pointer (some ⟨g, 0, none⟩), .slice a len cap, .int .i64 (p : Int)] w (BoP (bodR h l p) g w) := by
  have hll : l.length = len := hbt.len_eq
  have hlc := hbt.le_cap
  have hb0 : Below w.heap.size w (w.alloc (.cells reqZ 26)) := (Below.refl _ _).alloc (Nat.le_refl _) _
  have HB0 := Bx.mk hb0
  have HROW : Bx ((w.alloc (.cells reqZ 26)).heap[w.heap.size]? = some (.cells reqZ 26 (0, 0))) := ⟨heap_alloc_new w _⟩
  have HSZ : Bx ((w.alloc (.cells reqZ 26)).heap.size = w.heap.size + 1) := ⟨by simp⟩
  have HM := Bx.mk (hm.below hb0)
  have HLT := Bx.mk hm.lt
  have HBT := Bx.mk (hbt.below hb0)
  have k6 : (w.alloc (.cells reqZ 26)).cell? ⟨g, 6, none⟩ = some (.bool h.enc) := HM.out.c 6
  have HBY : Bx (Byt l) := ⟨hbt.byt⟩
  clear hm hbt hb0
  generalize hw1 : w.alloc (.cells reqZ 26) = W1 at *
  unfold reqZ at hw1
  cases henc : h.enc with
  | true =>
    rw [henc] at k6
    have HT : Bx (bodR h l p = if (runW 2048 ⟨0, 0, []⟩ (l.drop p) 0).2.2 ≠ 0 then (wx0, 0, (runW 2048 ⟨0, 0, []⟩ (l.drop p) 0).2.2) else (h.x (runW 2048 ⟨0, 0, []⟩ (l.drop p) 0).1, p + (runW 2048 ⟨0, 0, []⟩ (l.drop p) 0).2.1, 0)) := ⟨by unfold bodR; rw [if_pos henc]⟩
    have C1 : Hid (Calls Tryz.prog 40 #[.slice (slA a p cap) (len - p : Nat) (cap - p : Nat), .int .i64 2048] W1 fun e w' => ∃ v, e = .returned (.tuple #[v, .int .i64 ((whV 2048 (l.drop p)).2.1 : Int), .int .i64 (whV 2048 (l.drop p)).2.2]) ∧ w'.ownsRow W1.heap.size 5 1 v (whV 2048 (l.drop p)).1.length (bv (whV 2048 (l.drop p)).1) ∧ Below W1.heap.size W1 w') := rwhole_any _ _ _ _ 2048 W1 (HBT.out.rest p hp) (by omega)
    have hW : whV 2048 (l.drop p) = runW 2048 ⟨0, 0, []⟩ (l.drop p) 0 := by unfold whV; rw [if_neg (by omega)]; rfl
    have HBR : Bx (Byt (runW 2048 ⟨0, 0, []⟩ (l.drop p) 0).1) := ⟨run_byt _ _ _ _ (fun c hc => HBY.out c (List.mem_of_mem_drop hc)) Byt.nil⟩
    have hRN : (runW 2048 ⟨0, 0, []⟩ (l.drop p) 0).2.1 ≤ (l.drop p).length := by have := run_len 2048 (l.drop p) ⟨0, 0, []⟩ 0; omega
    rw [hW] at C1
    rw [List.length_drop, hll] at hRN
    have S1 := run_sl_l a len cap p p rfl hp W1
    generalize runW 2048 ⟨0, 0, []⟩ (l.drop p) 0 = R at *
    obtain ⟨body, n, E⟩ := R
    simp only at C1 HT HBR hRN
    clear hW henc
    by_cases hE : E = 0
    · subst hE
      have HT2 : Bx (bodR h l p = (h.x body, p + n, 0)) := ⟨by rw [HT.out, if_neg (by simp)]⟩
      clear HT
      go_enter Tryz.func28, Tryz.ntmps28
      go_wp2_with fail
      refine C1.out.mono ?_
      rintro e w3 ⟨v, rfl, hown, hb3⟩
      obtain ⟨av, cv, hv⟩ := own_sl hown
      subst hv
      have hm3 := HM.out.below hb3
      have hz3 : w3.heap[w.heap.size]? = some (.cells reqZ 26 (0, 0)) := by rw [hb3.block _ (by rw [HSZ.out]; omega)]; exact HROW.out
      rw [HSZ.out] at hown
      have hBE := BE.make hm3 HLT.out hz3 (bstep HB0.out hb3) hown
      have HBE := Bx.mk hBE
      have k3 : w3.cell? ⟨g, 3, none⟩ = some (.slice none 0 0) := hm3.c 3
      have f3 := hm3.f 3
      have HR := Bx.mk (hr_rng hBE.row)
      obtain ⟨q1, q2, q3, q4, q5⟩ := hBE.put
      have HTR := Bx.mk q1
      have HQ2 := Bx.mk q2
      have HQ3 := Bx.mk q3
      have HQ4 := Bx.mk q4
      have HONE := Bx.mk (req_one h.m h.t h.k (.slice av body.length cv) rfl)
      have hwr : IntKind.i64.wrap ((p : Int) + (n : Int)) = (p : Int) + (n : Int) := IntWalk.i64_in _ (by omega)
      clear hown hb3 hm3 hz3 hBE q1 q2 q3 q4 q5 C1 hw1 S1
      go_wp2_with (first
        | (refine wpList_load_mid rfl 26 (.tmp 35) rfl g 0 rfl [.string h.m, .string h.t, .string h.k, .slice av body.length cv] _ HR.out Tryz.underlying26 rfl req_info ?_)
        | (refine wpList_store_mid rfl 26 (.tmp 6) (.tmp 36) rfl w.heap.size 0 (hxA h (.slice av body.length cv)) rfl rfl HTR.out req_info HONE.out ?_))
      refine bodyPost_ret (v := .tuple #[.agg (hxA h (.slice av body.length cv)), .int .i64 ((p : Int) + (n : Int)), .int .i64 0]) (results_rtt rfl _ _ w.heap.size _ _ _ rfl rfl rfl HQ2.out req_info) rfl ⟨.slice av body.length cv, ?_⟩
      rw [HT2.out]
      exact ⟨rfl, HBR.out, HQ4.out, HQ3.out⟩
    · have HT2 : Bx (bodR h l p = (wx0, 0, E)) := ⟨by rw [HT.out, if_pos hE]⟩
      have hne : (E != 0) = true := by simpa using hE
      clear HT hE
      go_enter Tryz.func28, Tryz.ntmps28
      go_wp2_with fail
      refine C1.out.mono ?_
      rintro e w3 ⟨v, rfl, hown, hb3⟩
      have hz3 : w3.heap[w.heap.size]? = some (.cells reqZ 26 (0, 0)) := by rw [hb3.block _ (by rw [HSZ.out]; omega)]; exact HROW.out
      obtain ⟨q1, q2, q3⟩ := ans_put hz3 (bstep HB0.out hb3) reqZ rfl
      have HQ1 := Bx.mk q1
      have HQ2 := Bx.mk q2
      have HQ3 := Bx.mk q3
      clear hown hb3 hz3 q1 q2 q3 C1 hw1 S1
      go_wp2_with (refine wpList_store_mid rfl 26 (.tmp 6) (.tmp 26) rfl w.heap.size 0 reqZ rfl rfl HQ1.out req_info (by simp [Value.oneCell', reqZ]) ?_)
      refine bodyPost_ret (v := .tuple #[.agg reqZ, .int .i64 0, .int .i64 E]) (results_rtt rfl _ _ w.heap.size reqZ _ _ rfl rfl rfl HQ2.out req_info) rfl ⟨.slice none 0 0, ?_⟩
      rw [HT2.out]
      exact ⟨rfl, Byt.nil, World.ownsRow_nil _ _ _ _, Kept.of_below HQ3.out⟩
  | false =>
    rw [henc] at k6
    have k7 : W1.cell? ⟨g, 7, none⟩ = some (.int .i64 (h.n : Int)) := HM.out.c 7
    have hw2 : IntKind.i64.wrap ((len : Int) - (p : Int)) = (len : Int) - (p : Int) := IntWalk.i64_in _ (by omega)
    by_cases hn : len - p < h.n
    · have HT2 : Bx (bodR h l p = (wx0, 0, 3)) := ⟨by unfold bodR; rw [if_neg (by rw [henc]; decide), hll, if_pos hn]⟩
      have g1 : (len : Int) - (p : Int) < (h.n : Int) := by omega
      obtain ⟨q1, q2, q3⟩ := ans_put HROW.out HB0.out reqZ rfl
      have HQ1 := Bx.mk q1
      have HQ2 := Bx.mk q2
      have HQ3 := Bx.mk q3
      clear q1 q2 q3 hn henc
      go_enter Tryz.func28, Tryz.ntmps28
      go_wp2_with (refine wpList_store_mid rfl 26 (.tmp 6) (.tmp 49) rfl w.heap.size 0 reqZ rfl rfl HQ1.out req_info (by simp [Value.oneCell', reqZ]) ?_)
      refine bodyPost_ret (v := .tuple #[.agg reqZ, .int .i64 0, .int .i64 3]) (results_rtt rfl _ _ w.heap.size reqZ _ _ rfl rfl rfl HQ2.out req_info) rfl ⟨.slice none 0 0, ?_⟩
      rw [HT2.out]
      exact ⟨rfl, Byt.nil, World.ownsRow_nil _ _ _ _, Kept.of_below HQ3.out⟩
    · have HT2 : Bx (bodR h l p = (h.x ((l.drop p).take h.n), p + h.n, 0)) := ⟨by unfold bodR; rw [if_neg (by rw [henc]; decide), hll, if_neg hn]⟩
      have g1 : ¬ (len : Int) - (p : Int) < (h.n : Int) := by omega
      have hwr : IntKind.i64.wrap ((p : Int) + (h.n : Int)) = (p : Int) + (h.n : Int) := IntWalk.i64_in _ (by omega)
      have S1 := run_sl_lh a len cap p (p + h.n) p ((p : Int) + (h.n : Int)) rfl (by omega) (by omega) (by omega) W1
      have hP := HBT.out.piece p (p + h.n) (by omega) (by omega)
      rw [Nat.add_sub_cancel_left] at S1 hP
      have C1 : Hid (Calls Tryz.prog 10 #[.slice (slA a p cap) (h.n : Nat) (cap - p : Nat)] W1 fun e w' => ∃ v, e = .returned v ∧ w'.ownsRow W1.heap.size 5 1 v h.n (bv ((l.drop p).take h.n)) ∧ Below W1.heap.size W1 w') := copy_any _ _ _ _ W1 hP (by omega)
      have hlN : ((l.drop p).take h.n).length = h.n := by rw [List.length_take, List.length_drop]; omega
      have HBR : Bx (Byt ((l.drop p).take h.n)) := ⟨hP.byt⟩
      generalize hBD : (l.drop p).take h.n = body at *
      generalize hN : h.n = N at *
      have HNN := Bx.mk hN
      clear hP hn henc hBD hN
      go_enter Tryz.func28, Tryz.ntmps28
      go_wp2_with fail
      refine C1.out.mono ?_
      rintro e w3 ⟨v, rfl, hown, hb3⟩
      obtain ⟨av, cv, hv⟩ := own_sl hown
      subst hv
      have hm3 := HM.out.below hb3
      have hz3 : w3.heap[w.heap.size]? = some (.cells reqZ 26 (0, 0)) := by rw [hb3.block _ (by rw [HSZ.out]; omega)]; exact HROW.out
      rw [HSZ.out] at hown
      have hBE := BE.make (b := body) hm3 HLT.out hz3 (bstep HB0.out hb3) (by rw [hlN]; exact hown)
      have HBE := Bx.mk hBE
      have k3 : w3.cell? ⟨g, 3, none⟩ = some (.slice none 0 0) := hm3.c 3
      have f3 := hm3.f 3
      have HONE := Bx.mk (req_one h.m h.t h.k (.slice av N cv) rfl)
      clear hown hb3 hm3 hz3 hBE C1 hw1 S1
      go_upto_region 10 with fail
      generalize w3.setCell ⟨g, 3, none⟩ (.slice av N cv) = W4 at *
      obtain ⟨q1, q2, q3, q4, q5⟩ := HBE.out.drew.put
      have HTR := Bx.mk q1
      have HQ2 := Bx.mk q2
      have HQ3 := Bx.mk q3
      have HQ4 := Bx.mk q4
      have HRW := Bx.mk q5
      have hk := HBE.out.drew.row
      clear q1 q2 q3 q4 q5 HBE
      refine wp_region_held_drew (S := fun W => W.heap[g]? = some (.cells (hrA h (.slice av N cv)) 62 (0, 0))) (by kernel_rfl) hk (fun _ => ?_)
      generalize W4.drew = wk at *
      refine wpAnyH_take (i := 0) (oi := { dst := some 64, op := Op.move (Operand.tmp 0), type := 60, pos := "ref.go:175", after := #[], guard := none }) (v := ?vrbd101) rfl (by kernel_rfl) (by kernel_rfl) (by kernel_rfl) (fun _ _ _ h => h) (Or.inl ⟨by rfl, ?yrbd101⟩) hk ?rrbd101
      case yrbd101 => (intro w hSw; (try dsimp only at hSw); go_simp; first | done | with_reducible rfl)
      simp only [Act.put, List.setIfInBounds_toArray, List.set_cons_zero, List.set_cons_succ]
      refine wpAnyH_take (i := 1) (oi := { dst := some 65, op := Op.nilCheck (Operand.tmp 64), type := 0, pos := "ref.go:175", after := #[{ on := 0, ground := Ground.data }], guard := none }) (v := ?vrbd102) rfl (by kernel_rfl) (by kernel_rfl) (by kernel_rfl) (fun _ _ _ h => h) (Or.inl ⟨by rfl, ?yrbd102⟩) hk ?rrbd102
      case yrbd102 => (intro w hSw; (try dsimp only at hSw); go_simp; first | done | with_reducible rfl)
      simp only [Act.put, List.setIfInBounds_toArray, List.set_cons_zero, List.set_cons_succ]
      refine wpAnyH_take (i := 2) (oi := { dst := some 66, op := Op.fieldAddr 62 (Operand.tmp 65) 0, type := 0, pos := "ref.go:175", after := #[{ on := 1, ground := Ground.data }], guard := none }) (v := ?vrbd103) rfl (by kernel_rfl) (by kernel_rfl) (by kernel_rfl) (fun _ _ _ h => h) (Or.inl ⟨by rfl, ?yrbd103⟩) hk ?rrbd103
      case yrbd103 => (intro w hSw; (try dsimp only at hSw); go_simp; first | done | with_reducible rfl)
      simp only [Act.put, List.setIfInBounds_toArray, List.set_cons_zero, List.set_cons_succ]
      refine wpAnyH_take (i := 3) (oi := { dst := some 67, op := Op.load 26 (Operand.tmp 66), type := 26, pos := "ref.go:175", after := #[{ on := 2, ground := Ground.data }], guard := none }) (v := .agg ([.string h.m, .string h.t, .string h.k, .slice av N cv]).toArray) rfl (by kernel_rfl) (by kernel_rfl) (by kernel_rfl) (fun _ _ _ h => h) (yieldsIf_load_mid (by rfl) 26 (.tmp 66) rfl g 0 rfl ([.string h.m, .string h.t, .string h.k, .slice av N cv]) _ (fun W h => hr_rng h) Tryz.underlying26 rfl req_info) hk ?_
      simp only [Act.put, List.setIfInBounds_toArray, List.set_cons_zero, List.set_cons_succ]
      refine wpAnyH_take (i := 4) (oi := { dst := some 68, op := Op.move (Operand.tmp 2), type := 3, pos := "ref.go:175", after := #[{ on := 10, ground := Ground.gcOnly Departure.lateStores }], guard := none }) (v := ?vrbd104) rfl (by kernel_rfl) (by kernel_rfl) (by kernel_rfl) (fun _ _ _ h => h) (Or.inl ⟨by rfl, ?yrbd104⟩) hk ?rrbd104
      case yrbd104 => (intro w hSw; (try dsimp only at hSw); go_simp; first | done | with_reducible rfl)
      simp only [Act.put, List.setIfInBounds_toArray, List.set_cons_zero, List.set_cons_succ]
      refine wpAnyH_take (i := 5) (oi := { dst := some 69, op := Op.move (Operand.tmp 0), type := 60, pos := "ref.go:175", after := #[{ on := 10, ground := Ground.gcOnly Departure.lateStores }], guard := none }) (v := ?vrbd105) rfl (by kernel_rfl) (by kernel_rfl) (by kernel_rfl) (fun _ _ _ h => h) (Or.inl ⟨by rfl, ?yrbd105⟩) hk ?rrbd105
      case yrbd105 => (intro w hSw; (try dsimp only at hSw); go_simp; first | done | with_reducible rfl)
      simp only [Act.put, List.setIfInBounds_toArray, List.set_cons_zero, List.set_cons_succ]
      refine wpAnyH_take (i := 6) (oi := { dst := some 70, op := Op.nilCheck (Operand.tmp 69), type := 0, pos := "ref.go:175", after := #[{ on := 5, ground := Ground.data }, { on := 10, ground := Ground.gcOnly Departure.lateStores }], guard := none }) (v := ?vrbd106) rfl (by kernel_rfl) (by kernel_rfl) (by kernel_rfl) (fun _ _ _ h => h) (Or.inl ⟨by rfl, ?yrbd106⟩) hk ?rrbd106
      case yrbd106 => (intro w hSw; (try dsimp only at hSw); go_simp; first | done | with_reducible rfl)
      simp only [Act.put, List.setIfInBounds_toArray, List.set_cons_zero, List.set_cons_succ]
      refine wpAnyH_take (i := 7) (oi := { dst := some 71, op := Op.fieldAddr 62 (Operand.tmp 70) 4, type := 0, pos := "ref.go:175", after := #[{ on := 6, ground := Ground.data }, { on := 10, ground := Ground.gcOnly Departure.lateStores }], guard := none }) (v := ?vrbd107) rfl (by kernel_rfl) (by kernel_rfl) (by kernel_rfl) (fun _ _ _ h => h) (Or.inl ⟨by rfl, ?yrbd107⟩) hk ?rrbd107
      case yrbd107 => (intro w hSw; (try dsimp only at hSw); go_simp; first | done | with_reducible rfl)
      simp only [Act.put, List.setIfInBounds_toArray, List.set_cons_zero, List.set_cons_succ]
      refine wpAnyH_take (i := 8) (oi := { dst := some 72, op := Op.load 3 (Operand.tmp 71), type := 3, pos := "ref.go:175", after := #[{ on := 7, ground := Ground.data }, { on := 10, ground := Ground.gcOnly Departure.lateStores }], guard := none }) (v := ?vrbd108) rfl (by kernel_rfl) (by kernel_rfl) (by kernel_rfl) (fun _ _ _ h => h) (Or.inl ⟨by rfl, ?yrbd108⟩) hk ?rrbd108
      case yrbd108 => (intro w hSw; have hcw := (hr_n hSw).trans (by rw [HNN.out]); clear hSw; go_simp; first | done | with_reducible rfl)
      simp only [Act.put, List.setIfInBounds_toArray, List.set_cons_zero, List.set_cons_succ]
      refine wpAnyH_take (i := 9) (oi := { dst := some 73, op := Op.binOp BinOp.add 3 (Operand.tmp 68) (Operand.tmp 72) 3, type := 3, pos := "ref.go:175", after := #[{ on := 4, ground := Ground.data }, { on := 8, ground := Ground.data }, { on := 10, ground := Ground.gcOnly Departure.lateStores }], guard := none }) (v := ?vrbd109) rfl (by kernel_rfl) (by kernel_rfl) (by kernel_rfl) (fun _ _ _ h => h) (Or.inl ⟨by rfl, ?yrbd109⟩) hk ?rrbd109
      case yrbd109 => (intro w hSw; (try dsimp only at hSw); go_simp; first | done | with_reducible rfl)
      simp only [Act.put, List.setIfInBounds_toArray, List.set_cons_zero, List.set_cons_succ]
      refine wpAnyH_ready (rs := [10]) (by decide +kernel) (by simp) ?_
      refine AllReadyH.cons (o := { dst := none, op := Op.store 26 (Operand.tmp 6) (Operand.tmp 67), type := 0, pos := "ref.go:175", after := #[{ on := 3, ground := Ground.data }, { on := 0, ground := Ground.phase }, { on := 1, ground := Ground.phase }, { on := 2, ground := Ground.phase }, { on := 3, ground := Ground.phase }, { on := 4, ground := Ground.textOnly Departure.lateStores }, { on := 5, ground := Ground.textOnly Departure.lateStores }, { on := 6, ground := Ground.textOnly Departure.lateStores }, { on := 7, ground := Ground.textOnly Departure.lateStores }, { on := 8, ground := Ground.textOnly Departure.lateStores }, { on := 9, ground := Ground.textOnly Departure.lateStores }], guard := none }) rfl (fun K hK => ?_) AllReadyH.nil
      rw [if_pos (by rfl)]
      refine wp_store_mid 26 (.tmp 6) (.tmp 67) rfl w.heap.size 0 (hxA h (.slice av N cv)) rfl rfl ?htrbd1010 req_info HONE.out ?_
      case htrbd1010 => exact HTR.out
      replace hk := HRW.out
      generalize hwz : wk.setCells w.heap.size 0 (hxA h (.slice av N cv)).toList = wz at *
      simp only [Act.put]
      refine hK.out _ _ hk (fun _ => ?_)
      clear hK K
      try simp only [Act.put, List.setIfInBounds_toArray, List.set_cons_zero, List.set_cons_succ]
      refine wpAnyH_take (i := 11) (oi := { dst := some 7, op := Op.assign (Operand.tmp 73), type := 3, pos := "ref.go:175", after := #[{ on := 9, ground := Ground.data }, { on := 10, ground := Ground.chain }, { on := 0, ground := Ground.phase }, { on := 1, ground := Ground.phase }, { on := 2, ground := Ground.phase }, { on := 3, ground := Ground.phase }, { on := 4, ground := Ground.phase }, { on := 5, ground := Ground.phase }, { on := 6, ground := Ground.phase }, { on := 7, ground := Ground.phase }, { on := 8, ground := Ground.phase }, { on := 9, ground := Ground.phase }, { on := 10, ground := Ground.phase }], guard := none }) (v := ?vrbd1011) rfl (by kernel_rfl) (by kernel_rfl) (by kernel_rfl) (fun _ _ _ h => h) (Or.inl ⟨by rfl, ?yrbd1011⟩) hk ?rrbd1011
      case yrbd1011 => (intro w hSw; (try dsimp only at hSw); go_simp; first | done | with_reducible rfl)
      simp only [Act.put, List.setIfInBounds_toArray, List.set_cons_zero, List.set_cons_succ]
      refine wpAnyH_take (i := 12) (oi := { dst := some 8, op := Op.assign (Operand.const (Value.int IntKind.i64 0)), type := 3, pos := "ref.go:175", after := #[{ on := 11, ground := Ground.chain }, { on := 0, ground := Ground.phase }, { on := 1, ground := Ground.phase }, { on := 2, ground := Ground.phase }, { on := 3, ground := Ground.phase }, { on := 4, ground := Ground.phase }, { on := 5, ground := Ground.phase }, { on := 6, ground := Ground.phase }, { on := 7, ground := Ground.phase }, { on := 8, ground := Ground.phase }, { on := 9, ground := Ground.phase }, { on := 10, ground := Ground.phase }, { on := 11, ground := Ground.phase }], guard := none }) (v := ?vrbd1012) rfl (by kernel_rfl) (by kernel_rfl) (by kernel_rfl) (fun _ _ _ h => h) (Or.inl ⟨by rfl, ?yrbd1012⟩) hk ?rrbd1012
      case yrbd1012 => (intro w hSw; (try dsimp only at hSw); go_simp; first | done | with_reducible rfl)
      simp only [Act.put, List.setIfInBounds_toArray, List.set_cons_zero, List.set_cons_succ]
      refine wpAnyH_done (by decide +kernel) ?_ _
      go_wp2
      refine bodyPost_ret (v := .tuple #[.agg (hxA h (.slice av N cv)), .int .i64 ((p : Int) + (N : Int)), .int .i64 0]) (results_rtt rfl _ _ w.heap.size _ _ _ rfl rfl rfl HQ2.out req_info) rfl ⟨.slice av N cv, ?_⟩
      rw [HT2.out]
      exact ⟨rfl, HBR.out, (by show World.ownsRow _ _ _ _ _ body.length _; rw [hlN]; rw [hlN] at HQ4; exact HQ4.out), HQ3.out⟩
end Go.Proofs.YtdameoejigpnhaaGreatDoor
namespace Go.Proofs.YtdameoejigpnhaaGreatDoor
open Go.RowKit
set_option linter.unusedVariables false

/-- the state of the loop -/
structure RQ (w wr : World) (g : Nat) (h : HD) (l : List Int) (p lines : Nat) (T : WX × Nat × Int) : Prop where
  rh : RH wr g h
  gt : w.heap.size < g
  bel : Below w.heap.size w wr
  res : wr.heap[w.heap.size]? = some (.cells reqZ 26 (0, 0))
  le : lines ≤ 17
  run : ∃ f, l.length < f + p ∧ whQ wp0 l f p lines h = T
set_option maxRecDepth 100000 in
theorem whQ_step {l : List Int} {p lines : Nat} {h : HD} {T : WX × Nat × Int} (hp : p ≤ l.length) (hr : ∃ f, l.length < f + p ∧ whQ wp0 l f p lines h = T) : ∃ f, l.length < f + (p + 1) ∧
    (if (lnT l p).2.2 ≠ 0 then (wx0, 0, (lnT l p).2.2) else
    if lines = 0 then (match fstV (lnT l p).1 with | none => (wx0, 0, 4) | some (m, t) => whQ wp0 l f (p + (lnT l p).2.1) 1 { h with m := m, t := t }) else
    if (lnT l p).1 = [] then bodR h l (p + (lnT l p).2.1) else
    if 17 ≤ lines then (wx0, 0, 5) else
    if (furV h (lnT l p).1).2 ≠ 0 then (wx0, 0, (furV h (lnT l p).1).2) else
    whQ wp0 l f (p + (lnT l p).2.1) (lines + 1) (furV h (lnT l p).1).1) = T := by
  obtain ⟨f, hf, he⟩ := hr
  obtain ⟨f, rfl⟩ : ∃ f', f = f' + 1 := ⟨f - 1, by omega⟩
  exact ⟨f, by omega, he⟩
set_option maxRecDepth 100000 in
theorem RQ.step {w wr w2 : World} {g : Nat} {h h2 : HD} {l : List Int} {p lines : Nat} {T : WX × Nat × Int} (q : RQ w wr g h l p lines T) (hm : RH w2 g h2) (hk : Kept (fun k => k = g) wr w2) {p2 lines2 : Nat} (hl : lines2 ≤ 17) (hr : ∃ f, l.length < f + p2 ∧ whQ wp0 l f p2 lines2 h2 = T) : RQ w w2 g h2 l p2 lines2 T :=
  have hg := q.gt
  ⟨hm, hg, q.bel.trans (hk.low (fun k hk => by omega) q.bel.size), by rw [hk.block _ (Array.getElem?_eq_some_iff.1 q.res).1 (by omega)]; exact q.res, hl, hr⟩
set_option maxRecDepth 100000 in
set_option maxHeartbeats 2000000 in
theorem rwholeq_any (a : Option Addr) (len cap : Nat) (l : List Int) (w : World) (h : Bts w a len cap l) (hs : len ≤ 1000000) :
    Calls Tryz.prog 12 #[.slice a len cap] w (WhP (runQ wp0 ws0 l 0) w) := by
  have hl : Hid (l.length = len) := h.len_eq
  have HBY : Hid (Byt l) := h.byt
  have H := Bx.mk h
  have HT0 : Bx (whQ wp0 l (l.length + 1) 0 0 hd0 = runQ wp0 ws0 l 0) := ⟨whQ_run wp0 l (l.length + 1) 0 0 hd0 (Nat.zero_le _) (by omega)⟩
  generalize hT : runQ wp0 ws0 l 0 = T at *
  clear h hT
  have HSZ : Bx ((w.alloc (.cells reqZ 26)).heap.size = w.heap.size + 1) := ⟨by simp⟩
  have HQ0 : Bx (RQ w ((w.alloc (.cells reqZ 26)).alloc (.cells (hrA hd0 (.slice none 0 0)) 62)) (w.heap.size + 1) hd0 l 0 0 T) := ⟨by
    refine ⟨⟨?_⟩, by omega, ((Below.refl _ _).alloc (Nat.le_refl _) _).alloc (by simp) _, ?_, by omega, l.length + 1, by omega, HT0.out⟩
    · rw [← HSZ.out]; exact heap_alloc_new _ _
    · rw [heap_alloc_old _ _ (by rw [HSZ.out]; omega)]; exact heap_alloc_new w _⟩
  generalize hw1 : w.alloc (.cells reqZ 26) = W1 at *
  unfold reqZ at hw1
  generalize hw2 : W1.alloc (.cells (hrA hd0 (.slice none 0 0)) 62) = W2 at *
  have hw2' : W1.alloc (.cells #[.string ⟨#[]⟩, .string ⟨#[]⟩, .string ⟨#[]⟩, .slice none 0 0, .bool false, .bool false, .bool false, .int .i64 0] 62) = W2 := hw2
  clear hw2
  have hsz := HSZ.out
  go_enter Tryz.func12, Tryz.ntmps12
  go_wp2
  go_loopw [6, 7] (fun i j wr => ∃ (p lines : Nat) (h : HD), p ≤ len ∧ i = .int .i64 p ∧ j = .int .i64 lines ∧ Bx (RQ w wr (w.heap.size + 1) h l p lines T)) (fun i _ _ => len - (intOf i).toNat)
  case atStart => exact ⟨0, 0, hd0, Nat.zero_le _, rfl, rfl, HQ0⟩
  case round =>
    clear HQ0
    obtain ⟨p, lines, h, hp, rfl, rfl, HS⟩ := hrel
    obtain ⟨f, hf, hR⟩ := whQ_step (by rw [hl.out]; exact hp) HS.out.run
    have hlok : (lnT l p).2.2 = 0 → 2 ≤ (lnT l p).2.1 ∧ p + (lnT l p).2.1 ≤ l.length ∧ (lnT l p).1.length + 2 = (lnT l p).2.1 ∧ (lnT l p).1 = (l.drop p).take (lnT l p).1.length ∧ p + (lnT l p).2.1 ≤ 1024 := lnR_ok l p (l.length + 1 - p) p (Nat.le_refl _)
    have C1 := rline_any a len cap l p _ (H.out.below HS.out.bel) hp hs
    have HC1 := Bx.mk C1
    clear C1
    generalize lnT l p = LT at *
    obtain ⟨L, n, E⟩ := LT
    simp only at HC1 hlok hR
    by_cases hE : E = 0
    · subst hE
      obtain ⟨h2, hpn, hLn, hLe, h1024⟩ := hlok rfl
      have hLB : Byt L := by rw [hLe]; exact fun c hc => HBY.out c (List.mem_of_mem_drop (List.mem_of_mem_take hc))
      rw [if_neg (by simp)] at hR
      have hll := HS.out.le
      have hw3 : IntKind.i64.wrap ((p : Int) + (n : Int)) = (p : Int) + (n : Int) := IntWalk.i64_in _ (by omega)
      have hw4 : IntKind.i64.wrap ((lines : Int) + 1) = (lines : Int) + 1 := IntWalk.i64_in _ (by omega)
      rw [hl.out] at hpn
      have hcast : ((p + n : Nat) : Int) = (p : Int) + (n : Int) := by omega
      have hcast2 : ((lines + 1 : Nat) : Int) = (lines : Int) + 1 := by omega
      have HLE := Bx.mk hLe
      clear hLe hlok
      by_cases hl0 : lines = 0
      · subst hl0
        rw [if_pos rfl] at hR
        have HR := Bx.mk hR
        clear hR
        go_wp2_with fail
        refine HC1.out.mono ?_
        rintro e w2 ⟨rfl, rfl⟩
        go_wp2_with fail
        refine (rfirst_any (w.heap.size + 1) h L _ HS.out.rh hLB (by omega)).mono ?_
        rintro e w3 ⟨rfl, hm3, hk3⟩
        cases hF : fstV L with
        | none =>
          have HT2 : Bx (T = (wx0, 0, 4)) := ⟨by rw [← HR.out, hF]⟩
          have hFE : fstE L = 4 := by unfold fstE; rw [hF]
          have HQ9 : Bx (Below w.heap.size w w3 ∧ w3.heap[w.heap.size]? = some (.cells reqZ 26 (0, 0))) := ⟨HS.out.bel.trans (hk3.low (fun k hk => by omega) HS.out.bel.size), by rw [hk3.block _ (Array.getElem?_eq_some_iff.1 HS.out.res).1 (by omega)]; exact HS.out.res⟩
          rw [hFE]
          obtain ⟨q1, q2, q3⟩ := ans_put HQ9.out.2 HQ9.out.1 reqZ rfl
          have HQ1 := Bx.mk q1
          have HQ2 := Bx.mk q2
          have HQ3 := Bx.mk q3
          clear q1 q2 q3 hm3 hk3 hF hFE hcast hcast2
          go_wp2_with (refine wpList_store_mid rfl 26 (.tmp 2) (.tmp 50) rfl w.heap.size 0 reqZ rfl rfl HQ1.out req_info (by simp [Value.oneCell', reqZ]) ?_)
          refine bodyPost_ret (v := .tuple #[.agg reqZ, .int .i64 0, .int .i64 4]) (results_rtt rfl _ _ w.heap.size reqZ _ _ rfl rfl rfl HQ2.out req_info) rfl ⟨.slice none 0 0, ?_⟩
          rw [HT2.out]
          exact ⟨rfl, Byt.nil, World.ownsRow_nil _ _ _ _, HQ3.out⟩
        | some mt =>
          obtain ⟨m, t⟩ := mt
          have hFE : fstE L = 0 := by unfold fstE; rw [hF]
          have HQ : Bx (RQ w w3 (w.heap.size + 1) (fstH h L) l (p + n) 1 T) := ⟨HS.out.step hm3 hk3 (by omega) ⟨f, by omega, by rw [← HR.out, hF]; unfold fstH; rw [hF]⟩⟩
          rw [hFE]
          clear hm3 hk3 hF hFE hcast hcast2
          go_wp2
          go_roundw
          case rel => exact ⟨p + n, 1, fstH h L, by omega, by go_num, by go_num, HQ⟩
          case measure => simp [intOf]; omega
      · have hl1 : ¬ (lines : Int) + 1 = 1 := by omega
        have hl2 : ((lines : Int) + 1 == 1) = false := by simpa using hl1
        rw [if_neg hl0] at hR
        have hS0 : (strOf L).toList.isEmpty = decide (L = []) := by
          rw [← lit_eq hLB [] Byt.nil _ rfl]
          generalize (strOf L).toList = z
          cases z <;> rfl
        by_cases hL0 : L = []
        · rw [decide_eq_true hL0] at hS0
          rw [if_pos hL0] at hR
          have HR := Bx.mk hR
          clear hR hL0
          go_wp2_with fail
          refine HC1.out.mono ?_
          rintro e w2 ⟨rfl, rfl⟩
          go_wp2_with fail
          rw [← hcast]
          refine (rbody_any (w.heap.size + 1) h a len cap l (p + n) _ HS.out.rh (H.out.below HS.out.bel) hpn hs).mono ?_
          rintro e w3 ⟨v, rfl, hby, hown, hk3⟩
          rw [HR.out] at hby hown ⊢
          obtain ⟨av, cv, hv⟩ := own_sl hown
          subst hv
          have hQ9 : Below w.heap.size w w3 := HS.out.bel.trans (hk3.low (fun k hk => by omega) HS.out.bel.size)
          have hz9 : w3.heap[w.heap.size]? = some (.cells reqZ 26 (0, 0)) := by rw [hk3.block _ (Array.getElem?_eq_some_iff.1 HS.out.res).1 (by omega)]; exact HS.out.res
          obtain ⟨q1, q2, q3⟩ := ans_put hz9 hQ9 #[.string T.1.m, .string T.1.t, .string T.1.k, .slice av T.1.b.length cv] rfl
          have HQ1 := Bx.mk q1
          have HQ2 := Bx.mk q2
          have HQ3 := Bx.mk q3
          have HOWN : Bx ((w3.setCells w.heap.size 0 #[.string T.1.m, .string T.1.t, .string T.1.k, .slice av T.1.b.length cv].toList).ownsRow w.heap.size 5 1 (.slice av T.1.b.length cv) T.1.b.length (bv T.1.b)) := ⟨owns_setCells (own_lo hown HS.out.bel.size) (fun j hj => by have h1 := own_ge hown j hj; have h2 := (Array.getElem?_eq_some_iff.1 HS.out.res).1; omega)⟩
          have HONE := Bx.mk (req_one T.1.m T.1.t T.1.k (.slice av T.1.b.length cv) rfl)
          have HBT := Bx.mk hby
          clear q1 q2 q3 hown hk3 hQ9 hz9 hby
          unfold reqV
          go_wp2_with (refine wpList_store_mid rfl 26 (.tmp 2) (.tmp 40) rfl w.heap.size 0 #[.string T.1.m, .string T.1.t, .string T.1.k, .slice av T.1.b.length cv] rfl rfl HQ1.out req_info HONE.out ?_)
          refine bodyPost_ret (v := .tuple #[.agg #[.string T.1.m, .string T.1.t, .string T.1.k, .slice av T.1.b.length cv], .int .i64 (T.2.1 : Int), .int .i64 T.2.2]) (results_rtt rfl _ _ w.heap.size _ _ _ rfl rfl rfl HQ2.out req_info) rfl ⟨.slice av T.1.b.length cv, rfl, HBT.out, HOWN.out, HQ3.out⟩
        · rw [decide_eq_false hL0] at hS0
          rw [if_neg hL0] at hR
          by_cases h17 : 17 ≤ lines
          · rw [if_pos h17] at hR
            have HT2 : Bx (T = (wx0, 0, 5)) := ⟨hR.symm⟩
            have g17 : (17 : Int) < (lines : Int) + 1 := by omega
            clear hR hcast hcast2
            go_wp2_with fail
            refine HC1.out.mono ?_
            rintro e w2 ⟨rfl, rfl⟩
            obtain ⟨q1, q2, q3⟩ := ans_put HS.out.res HS.out.bel reqZ rfl
            have HQ1 := Bx.mk q1
            have HQ2 := Bx.mk q2
            have HQ3 := Bx.mk q3
            clear q1 q2 q3
            go_wp2_with (refine wpList_store_mid rfl 26 (.tmp 2) (.tmp 50) rfl w.heap.size 0 reqZ rfl rfl HQ1.out req_info (by simp [Value.oneCell', reqZ]) ?_)
            refine bodyPost_ret (v := .tuple #[.agg reqZ, .int .i64 0, .int .i64 5]) (results_rtt rfl _ _ w.heap.size reqZ _ _ rfl rfl rfl HQ2.out req_info) rfl ⟨.slice none 0 0, ?_⟩
            rw [HT2.out]
            exact ⟨rfl, Byt.nil, World.ownsRow_nil _ _ _ _, HQ3.out⟩
          · rw [if_neg h17] at hR
            have g17 : ¬ (17 : Int) < (lines : Int) + 1 := by omega
            have HR := Bx.mk hR
            clear hR
            go_wp2_with fail
            refine HC1.out.mono ?_
            rintro e w2 ⟨rfl, rfl⟩
            go_wp2_with fail
            refine (rfur_any (w.heap.size + 1) h L _ HS.out.rh hLB (by omega)).mono ?_
            rintro e w3 ⟨rfl, hm3, hk3⟩
            by_cases hE2 : (furV h L).2 = 0
            · rw [if_neg (by simpa using hE2)] at HR
              have HQ : Bx (RQ w w3 (w.heap.size + 1) (furV h L).1 l (p + n) (lines + 1) T) := ⟨HS.out.step hm3 hk3 (by omega) ⟨f, by omega, HR.out⟩⟩
              rw [hE2]
              clear hm3 hk3 hE2 hcast hcast2
              go_wp2
              go_roundw
              case rel => exact ⟨p + n, lines + 1, (furV h L).1, by omega, by go_num, by go_num, HQ⟩
              case measure => simp [intOf]; omega
            · rw [if_pos hE2] at HR
              have HT2 : Bx (T = (wx0, 0, (furV h L).2)) := ⟨HR.out.symm⟩
              have HQ9 : Bx (Below w.heap.size w w3 ∧ w3.heap[w.heap.size]? = some (.cells reqZ 26 (0, 0))) := ⟨HS.out.bel.trans (hk3.low (fun k hk => by omega) HS.out.bel.size), by rw [hk3.block _ (Array.getElem?_eq_some_iff.1 HS.out.res).1 (by omega)]; exact HS.out.res⟩
              have hne : ((furV h L).2 != 0) = true := by simpa using hE2
              generalize (furV h L).2 = E2 at *
              obtain ⟨q1, q2, q3⟩ := ans_put HQ9.out.2 HQ9.out.1 reqZ rfl
              have HQ1 := Bx.mk q1
              have HQ2 := Bx.mk q2
              have HQ3 := Bx.mk q3
              clear q1 q2 q3 hm3 hk3 hE2 hcast hcast2
              go_wp2_with (refine wpList_store_mid rfl 26 (.tmp 2) (.tmp 50) rfl w.heap.size 0 reqZ rfl rfl HQ1.out req_info (by simp [Value.oneCell', reqZ]) ?_)
              refine bodyPost_ret (v := .tuple #[.agg reqZ, .int .i64 0, .int .i64 E2]) (results_rtt rfl _ _ w.heap.size reqZ _ _ rfl rfl rfl HQ2.out req_info) rfl ⟨.slice none 0 0, ?_⟩
              rw [HT2.out]
              exact ⟨rfl, Byt.nil, World.ownsRow_nil _ _ _ _, HQ3.out⟩
    · have HT2 : Bx (T = (wx0, 0, E)) := ⟨by rw [← hR, if_pos hE]⟩
      have hne : (E != 0) = true := by simpa using hE
      clear hR hE hlok
      go_wp2_with fail
      refine HC1.out.mono ?_
      rintro e w2 ⟨rfl, rfl⟩
      obtain ⟨q1, q2, q3⟩ := ans_put HS.out.res HS.out.bel reqZ rfl
      have HQ1 := Bx.mk q1
      have HQ2 := Bx.mk q2
      have HQ3 := Bx.mk q3
      clear q1 q2 q3
      go_wp2_with (refine wpList_store_mid rfl 26 (.tmp 2) (.tmp 22) rfl w.heap.size 0 reqZ rfl rfl HQ1.out req_info (by simp [Value.oneCell', reqZ]) ?_)
      refine bodyPost_ret (v := .tuple #[.agg reqZ, .int .i64 0, .int .i64 E]) (results_rtt rfl _ _ w.heap.size reqZ _ _ rfl rfl rfl HQ2.out req_info) rfl ⟨.slice none 0 0, ?_⟩
      rw [HT2.out]
      exact ⟨rfl, Byt.nil, World.ownsRow_nil _ _ _ _, HQ3.out⟩
end Go.Proofs.YtdameoejigpnhaaGreatDoor
