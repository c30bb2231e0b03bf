/- What Write of a disk does. What Sync of a disk does. -/
import Derived.Test.YtipakjenggeflaaGreatDoorDiskRead
import Derived.Test.YtipakjenggeflaaGreatDoorPkaa
import Derived.Laws.Tables
import Derived.Deep.CutRange
namespace Go.Proofs.YtipakjenggeflaaGreatDoor
open Go.RowKit
set_option linter.unusedVariables false

set_option maxRecDepth 100000 in
theorem Tryz.size5D : (Tryz.prog.info? 5).map (·.size) = some 1 := by kernel_rfl
set_option maxRecDepth 100000 in
theorem wpList_build_w {ops : Array Oper} {rest : List Oper} {o : Oper} {a : Act} {w : World} {Q : Exit → Act → World → Prop} (hgd : o.guard = none) (x : Operand) (ho : o.op = .build 120 #[(0, x)]) (k : Nat) (hx : a.eval x = .int .i64 (k : Int))
    (h : wpList Tryz.prog ops Q rest (a.put o.dst (.agg (wcl (k, s0)).toArray)) w) : wpList Tryz.prog ops Q (o :: rest) a w := by
  refine wpList_plain hgd fun K hK => ?_
  have hb : (Instr.build 120 #[(0, .int .i64 (k : Int))]).run Tryz.prog w = .ok (.agg (wcl (k, s0)).toArray) w := run_build (P := Tryz.prog) w 120 #[(0, .int .i64 (k : Int))] (wcl (k, s0)).toArray (by kernel_rfl)
  unfold Oper.wp execOp
  simp [ho, hx, hb]
  exact hK _ _ h
set_option maxRecDepth 100000 in
theorem wri_info : (Tryz.prog.info? 120).map (fun i => (i.zero.map (·.cells.size), i.size, i.bytes)) = some (some 65, 65, 72) := by kernel_rfl
set_option maxRecDepth 100000 in
theorem wri_parts : ∃ i0 zw, Tryz.prog.info? 120 = some i0 ∧ i0.zero = some (.agg zw) ∧ i0.size = 65 ∧ i0.bytes = 72 ∧ zw.size = 65 := by
  have hag : (Tryz.prog.info? 120).map (fun i => i.zero.map (fun z => match z with | .agg _ => true | _ => false)) = some (some true) := by kernel_rfl
  obtain ⟨i0, hi, h1⟩ := Option.map_eq_some_iff.1 wri_info
  rw [hi] at hag
  have hag2 : i0.zero.map (fun z => match z with | .agg _ => true | _ => false) = some true := by simpa using hag
  injection h1 with h1 h2
  injection h2 with h2 h3
  obtain ⟨z, hz, hzs⟩ := Option.map_eq_some_iff.1 h1
  rw [hz] at hag2
  cases z with
  | agg zw => exact ⟨i0, zw, hi, hz, h2, h3, hzs⟩
  | _ => simp at hag2
set_option maxRecDepth 100000 in
theorem wp_build_w1 {o : Oper} {a : Act} {w : World} {K : Act → World → Prop} {Q : Exit → Act → World → Prop} (x : Operand) (ho : o.op = .buildSlice 87 1 #[(0, x)]) (p : Nat × List Int) (hp : SxD p.2) (hx : a.eval x = .agg (wcl p).toArray)
    (h : ∀ w' G, w'.heap[G]? = some (.cells (wcl p).toArray 120 (0, 0)) → Bx (Below w.heap.size w w') → Bx (w.heap.size ≤ G) → K (a.put o.dst (.slice (some ⟨G, 0, none⟩) 1 1)) w') : o.wp Tryz.prog a w K Q := by
  obtain ⟨i0, zw, hi, hz0, hz1, hz2, hzs⟩ := wri_parts
  have hb := build_one_of 87 120 65 i0 zw Tryz.underlying87 hi hz0 hz1 (by rw [hz2]; decide) (by decide) (by decide) (wcl p) (wcl_len hp) w
  unfold Oper.wp execOp
  simp [ho, hx, hb]
  exact h _ _ (heap_alloc_new _ _) ⟨(Below.refl _ _).alloc (Nat.le_refl _) _⟩ ⟨Nat.le_refl _⟩
/-- whatever is now, whatever is fast -/
def RawX (w : World) (g : Nat) (own : Nat → Prop) (n : Nat) (O : List (Nat × List Int)) (armed : Bool) (left : Int) (off : Bool) (gf gn : Nat) (vo : Value) : Prop := ∃ F N, Raw w g own n F N O armed left off gf gn vo
set_option maxRecDepth 100000 in
theorem Raw.x {w : World} {g : Nat} {own : Nat → Prop} {n : Nat} {F N : List (List Int)} {O : List (Nat × List Int)} {armed : Bool} {left : Int} {off : Bool} {gf gn : Nat} {vo : Value} (h : Raw w g own n F N O armed left off gf gn vo) : RawX w g own n O armed left off gf gn vo := ⟨F, N, h⟩
set_option maxRecDepth 100000 in
theorem RawX.c0 {w : World} {g : Nat} {own : Nat → Prop} {n : Nat} {O : List (Nat × List Int)} {armed : Bool} {left : Int} {off : Bool} {gf gn : Nat} {vo : Value} (h : RawX w g own n O armed left off gf gn vo) : w.cell? ⟨g, 0, none⟩ = some (.slice (some ⟨gf, 0, none⟩) n n) := by obtain ⟨F, N, h⟩ := h; exact h.c0
set_option maxRecDepth 100000 in
theorem RawX.c1 {w : World} {g : Nat} {own : Nat → Prop} {n : Nat} {O : List (Nat × List Int)} {armed : Bool} {left : Int} {off : Bool} {gf gn : Nat} {vo : Value} (h : RawX w g own n O armed left off gf gn vo) : w.cell? ⟨g, 1, none⟩ = some (.slice (some ⟨gn, 0, none⟩) n n) := by obtain ⟨F, N, h⟩ := h; exact h.c1
set_option maxRecDepth 100000 in
theorem row_lt {w : World} {v : Nat} {o : Obj} (h : w.heap[v]? = some o) : v < w.heap.size := (Array.getElem?_eq_some_iff.1 h).1
set_option maxRecDepth 100000 in
theorem row_range {w : World} {v : Nat} {X : List Value} {T : TypeId} (h : w.heap[v]? = some (.cells X.toArray T (0, 0))) : w.rangeAt v 0 X := fun j u hj => by
  rw [Nat.zero_add, cell_of_row w v j _ _ (0, 0) h, List.getElem?_toArray]; exact hj
set_option maxRecDepth 100000 in
theorem row_puts {w : World} {v : Nat} {p : Nat × List Int} {T : TypeId} (h : w.heap[v]? = some (.cells (wcl p).toArray T (0, 0))) : w.rangeAt v 1 (bv p.2) := fun j u hj => by
  rw [cell_of_row w v (1 + j) _ _ (0, 0) h, List.getElem?_toArray, Nat.add_comm]; exact hj
set_option maxRecDepth 100000 in
theorem row_num {w : World} {v : Nat} {p : Nat × List Int} {T : TypeId} (h : w.heap[v]? = some (.cells (wcl p).toArray T (0, 0))) : w.cell? ⟨v, 0, none⟩ = some (.int .i64 (p.1 : Int)) := by
  rw [cell_of_row w v 0 _ _ (0, 0) h]; rfl
set_option maxRecDepth 100000 in
theorem far_row {w : World} {v : Nat} {x : Obj} (h : w.heap[v]? = some x) {b : Nat} (hb : v ≠ b) (vs : List Value) (o : Nat) : (w.setCells b o vs).heap[v]? = some x := (setCells_other hb vs o).trans h
set_option maxRecDepth 100000 in
theorem ne_of_own {own : Nat → Prop} {v b : Nat} (h : ¬ own v) (hb : own b) : v ≠ b := fun e => h (by rw [e]; exact hb)
set_option maxRecDepth 100000 in
theorem there_sz {w : World} {b o : Nat} {P : List Int} (h : w.there b o 64) (hP : SxD P) : w.there b o (bv P).toArray.size := by rw [List.size_toArray, bv_length, hP.1]; exact h
set_option maxRecDepth 100000 in
theorem more_all {w wk w4 : World} {g v g4 c4 : Nat} {own : Nat → Prop} {n : Nat} {F N : List (List Int)} {O : List (Nat × List Int)} {armed : Bool} {left : Int} {off : Bool} {gf gn : Nat} {vo : Value} {x : Obj} {o : Nat × List Int}
    (hR : Raw wk g own n F N O armed left off gf gn vo) (hv : wk.heap[v]? = some x) (hnv : ¬ own v) (hkp : Kept own w wk) (hlw : ∀ k, own k → k < w.heap.size) (hgr : wk.grownBy w4 vo.ownBlock)
    (hown : w4.ownsRow 0 120 65 (.slice (some ⟨g4, 0, none⟩) (O.length + 1) c4) (O.length + 1) (ocl O ++ wcl o)) (hp : o.1 < n ∧ SxD o.2) (hl : vo.ownBlock = some g4 ∨ g4 = wk.heap.size) :
    w4.cell? ⟨g, 2, none⟩ = some vo ∧ w4.frozen? ⟨g, 2, none⟩ = false ∧ Bx (w4.heap[v]? = some x) ∧ Bx ((w4.setCell ⟨g, 2, none⟩ (.slice (some ⟨g4, 0, none⟩) (O.length + 1) c4)).heap[v]? = some x) ∧
    Bx (Raw (w4.setCell ⟨g, 2, none⟩ (.slice (some ⟨g4, 0, none⟩) (O.length + 1) c4)) g (fun k => own k ∨ (Value.slice (some ⟨g4, 0, none⟩) (O.length + 1) c4).ownBlock = some k) n F N (O ++ [o]) armed left off gf gn (.slice (some ⟨g4, 0, none⟩) (O.length + 1) c4)) ∧
    Bx (Kept own w (w4.setCell ⟨g, 2, none⟩ (.slice (some ⟨g4, 0, none⟩) (O.length + 1) c4))) ∧
    Bx ((∀ k, (own k ∨ (Value.slice (some ⟨g4, 0, none⟩) (O.length + 1) c4).ownBlock = some k) → own k ∨ w.heap.size ≤ k) ∧ ¬ (own v ∨ (Value.slice (some ⟨g4, 0, none⟩) (O.length + 1) c4).ownBlock = some v)) := by
  have hg1 : w4.heap[g]? = wk.heap[g]? := hgr.block g (hR.lt g hR.og) (fun e => (hR.vo_ne e.symm).1 rfl)
  have hrow := hg1.trans hR.row
  have hvg : v ≠ g := ne_of_own hnv hR.og
  have hv4 : w4.heap[v]? = some x := (hgr.block v (row_lt hv) (fun e => hnv (hR.oo v e.symm))).trans hv
  have hsz := hkp.size
  have hvl := row_lt hv
  refine ⟨by rw [cell_of_row _ _ 2 _ _ (0, 0) hrow]; rfl, frozen_of_row _ _ 2 _ _ hrow, ⟨hv4⟩, ⟨(heap_setCell_other w4 ⟨g, 2, none⟩ v _ hvg).trans hv4⟩, ⟨hR.more hgr hown hp (fun k hk => ?_) rfl⟩, ⟨?_⟩, ⟨fun k hk => ?_, fun hh => ?_⟩⟩
  · have e : g4 = k := by simpa [Value.ownBlock] using hk
    rw [← e]; exact hl
  · exact (hkp.grown hgr (fun k hk => .inl (hR.oo k hk))).setCell (.inl hR.og) 2 _
  · rcases hk with h | h
    · exact .inl h
    · have e : g4 = k := by simpa [Value.ownBlock] using h
      rw [← e]
      rcases hl with h1 | h1
      · exact .inl (hR.oo g4 h1)
      · exact .inr (by omega)
  · rcases hh with h | h
    · exact hnv h
    · have e : g4 = v := by simpa [Value.ownBlock] using h
      rcases hl with h1 | h1
      · exact hnv (hR.oo v (by rw [← e]; exact h1))
      · omega
set_option maxRecDepth 100000 in
/-- bytes copied over noughts -/
theorem w_splice (k : Nat) (b : List Int) (hb : b.length ≤ 64) : splice (wcl (k, s0)) 1 (bv b) = wcl (k, pad64 b) := by
  unfold splice wcl pad64 s0
  simp only [bv_length]
  rw [show (1 + b.length) = b.length + 1 from Nat.add_comm _ _, List.drop_succ_cons, show (1 : Nat) = 0 + 1 from rfl, List.take_succ_cons, List.take_zero, bv_append]
  have e : (bv (List.replicate 64 0)).drop b.length = bv (List.replicate (64 - b.length) 0) := by unfold bv; rw [← List.map_drop, List.drop_replicate]
  rw [e]; rfl
set_option maxRecDepth 100000 in
theorem tick_open {w1 : World} {g : Nat} {own : Nat → Prop} {s : DS} (k : Nat) (b : List Int) (h : Dsk w1 g own s.tick) : ∃ n F N O armed left off gf gn vo P, Raw w1 g own n F N O armed left off gf gn vo ∧ Bx (n = s.F.length) ∧ Bx (O.length = s.O.length) ∧ Bx (P = pad64 b) ∧
    Bx (∀ w' own', (∃ gf gn vo, Raw w' g own' n F (N.set k P) (O ++ [(k, P)]) armed left off gf gn vo) → Dsk w' g own' { s.tick with O := s.O ++ [(k, pad64 b)] }) := by
  obtain ⟨gf, gn, vo, hR⟩ := h
  refine ⟨_, _, _, _, _, _, _, gf, gn, vo, _, hR, ⟨rfl⟩, ⟨rfl⟩, ⟨rfl⟩, ⟨fun w' own' hh => ?_⟩⟩
  obtain ⟨gf, gn, vo, hh⟩ := hh
  refine ⟨gf, gn, vo, ?_⟩
  have e : ({ s.tick with O := s.O ++ [(k, pad64 b)] } : DS).now = s.tick.now.set k (pad64 b) := by
    show app s.F (s.O ++ [(k, pad64 b)]) = _
    rw [app_append]; rfl
  rw [e]; exact hh
set_option maxRecDepth 100000 in
/-- a new variable -/
theorem wpList_alloc_at {ops : Array Oper} {rest : List Oper} {o : Oper} {a : Act} {w : World} {Q : Exit → Act → World → Prop} (hgd : o.guard = none) (T : TypeId) (sz : Nat) (ho : o.op = .alloc T) (hz : (Tryz.prog.info? T).map (fun i => i.zero.map (·.cells.size)) = some (some sz))
    (h : ∀ G w' cs, Bx (cs.size = sz) → w'.heap[G]? = some (.cells cs T (0, 0)) → Bx (Below w.heap.size w w') → Bx (G = w.heap.size) → wpList Tryz.prog ops Q rest (a.put o.dst (.pointer (some ⟨G, 0, none⟩))) w') : wpList Tryz.prog ops Q (o :: rest) a w :=
  wpList_alloc_of hgd T sz ho hz (fun cs hs => h _ _ cs ⟨hs⟩ (heap_alloc_new _ _) ⟨(Below.refl _ _).alloc (Nat.le_refl _) _⟩ ⟨rfl⟩)
set_option maxRecDepth 100000 in
/-- a store over a whole variable -/
theorem wpList_store_var {ops : Array Oper} {rest : List Oper} {o : Oper} {a : Act} {w : World} {Q : Exit → Act → World → Prop} (hgd : o.guard = none) (T : TypeId) (x y : Operand) (ho : o.op = .store T x y) (G : Nat) (cs : Array Value) (hrow : w.heap[G]? = some (.cells cs T (0, 0)))
    (cells : Array Value) (hx : a.eval x = .pointer (some ⟨G, 0, none⟩)) (hy : a.eval y = .agg cells) (hs : cells.size = cs.size) (hi : (Tryz.prog.info? T).map (·.size) = some cells.size) (h1 : cells.all (·.oneCell') = true)
    (h : ∀ w', w'.heap[G]? = some (.cells cells T (0, 0)) → Bx (Kept (fun k => k = G) w w') → wpList Tryz.prog ops Q rest (a.put o.dst undef) w') : wpList Tryz.prog ops Q (o :: rest) a w :=
  wpList_store_mid hgd T x y ho G 0 cells hx hy (by rw [hs]; exact there_row hrow) hi h1 (h _ (heap_stored hrow hs) ⟨Kept.setCells (own := fun k => k = G) (Kept.refl _ _) (.inl rfl) _ _⟩)
set_option maxRecDepth 100000 in
theorem var_facts {w w1 wA wB w4 : World} {g v : Nat} {own : Nat → Prop} {n : Nat} {F N : List (List Int)} {O : List (Nat × List Int)} {armed : Bool} {left : Int} {off : Bool} {gf gn : Nat} {vo : Value}
    (hR : Raw w1 g own n F N O armed left off gf gn vo) (hkp : Kept own w w1) (hv : v = w1.heap.size) (hbA : Below w1.heap.size w1 wA) (hkB : Kept (fun k => k = v) wA wB) (hb4 : Below v wB w4) :
    Raw w4 g own n F N O armed left off gf gn vo ∧ Kept own w w4 ∧ ¬ own v := by
  have hnv : ¬ own v := fun h => by have := hR.lt v h; omega
  have hRB := (hR.below hbA).kept hkB (fun k hk e => by have e : k = v := e; rw [e] at hk; exact hnv hk)
  have h1 := hkp.size
  have hkB2 : Kept own w wB := (hkp.below hbA).trans hkB (fun k e => .inr (by have e : k = v := e; omega))
  exact ⟨hRB.keep (fun k hk => hb4.block k (by have := hR.lt k hk; omega)) hb4.size, ⟨hb4.os.trans hkB2.os, hb4.tape.trans hkB2.tape, hb4.output.trans hkB2.output, Nat.le_trans hkB2.size hb4.size, fun k hk ho => (hb4.block k (by omega)).trans (hkB2.block k hk ho)⟩, hnv⟩
set_option maxRecDepth 100000 in
theorem cp_minD {W : World} {a : Option Addr} {len cap : Nat} {kk : List Int} (h : Bts W a len cap kk) (hl : kk.length ≤ 64) : (bv kk).length = Nat.min len 64 := by
  rw [bv_length, show Nat.min len 64 = min len 64 from rfl]; have := h.len_eq; omega
set_option maxRecDepth 100000 in
theorem cp_posD {W : World} {M o : Nat} {a : Option Addr} {len cap : Nat} {kk : List Int} (h : Bts W a len cap kk) : 0 < (bv kk).length → some (⟨M, o, none⟩ : Addr) = some ⟨M, o, none⟩ ∧ ∃ ad, a = some ad ∧ ∀ j v, (bv kk)[j]? = some v → W.cell? (ad.add j) = some v := by
  intro hp
  refine ⟨rfl, ?_⟩
  rw [bv_length] at hp
  have hl := h.len_eq
  obtain ⟨b, off, e, _, _⟩ := h.spot (by omega)
  subst e
  exact ⟨_, rfl, h.cells⟩
set_option maxRecDepth 100000 in
set_option maxHeartbeats 1000000 in
theorem write_ok (g : Nat) (own : Nat → Prop) (s : DS) (k : Nat) (a : Option Addr) (len cap : Nat) (b : List Int) (w : World) (h : Dsk w g own s) (hbt : Bts w a len cap b) (hfar : 0 < len → ∀ p, a = some p → ¬ own p.block) (h1 : s.off = false) (h2 : s.last = false) (hkn0 : k < s.F.length) (hlen : len ≤ 64) (hO : s.O.length ≤ 1000000) :
    Calls Tryz.prog 228 #[.pointer (some ⟨g, 0, none⟩), .int .i64 k, .slice a len cap] w fun e w' => e = .returned (.int .i64 0) ∧ ∃ own', Dsk w' g own' { s.tick with O := s.O ++ [(k, pad64 b)] } ∧ Did own w w' own' := by
  have H : Bx (Dsk w g own s) := ⟨h⟩
  have HRY : Bx (s.rdy = 0) := ⟨by simp [DS.rdy, h1]⟩
  have HH : Bx ((decide (0 ≤ (k : Int)) && decide ((k : Int) < (s.F.length : Int))) = true) := ⟨by simp; omega⟩
  have hg64 : ¬ (len : Int) > 64 := by omega
  have HLW : Bx (∀ k, own k → k < w.heap.size) := ⟨h.lt⟩
  have HPS : Bx (SxD (pad64 b)) := ⟨pad64_sx hbt.byt (by rw [hbt.len_eq]; exact hlen)⟩
  have HBL : Bx (b.length ≤ 64) := ⟨by rw [hbt.len_eq]; exact hlen⟩
  have HBT : Bx (Bts w a len cap b) := ⟨hbt⟩
  have HF : Bx (0 < len → ∀ p, a = some p → ¬ own p.block) := ⟨hfar⟩
  have hbl := hbt.len_eq
  clear h hbt hfar h1
  go_enter Tryz.func228, Tryz.ntmps228
  go_wp2_with fail
  refine (ready_any g own s _ H.out).mono ?_
  rintro e w' ⟨rfl, rfl⟩
  rw [HRY.out]
  go_wp2_with fail
  refine (has_anyD g own s k _ H.out).mono ?_
  rintro e w' ⟨rfl, rfl⟩
  rw [HH.out]
  go_wp2_with fail
  refine (step_on g own s _ H.out h2).mono ?_
  rintro e w1 ⟨rfl, hD1, hK1⟩
  have hb1 := HBT.out.kept hK1 HF.out
  have hnw : ∀ k, own k → k < w1.heap.size := hD1.lt
  obtain ⟨n, F, N, O, armed, left, off, gf, gn, vo, P, hR, HN, HOL, HP, HDD⟩ := tick_open k b hD1
  rw [← HP.out] at HPS
  have hkn : k < n := by rw [HN.out]; exact hkn0
  have hOl : O.length ≤ 1000000 := by rw [HOL.out]; exact hO
  have hsp := w_splice k b HBL.out
  rw [← HP.out] at hsp
  have HSP : Bx _ := ⟨hsp⟩
  have HDI0 : Bx ((Tryz.prog.info? 120).map (·.size) = some (wcl (k, s0)).toArray.size) := ⟨by rw [List.size_toArray, wcl_len s0_sx]; exact wri_size⟩
  have HO0 : Bx ((wcl (k, s0)).toArray.all (·.oneCell') = true) := ⟨all_oneCell_toArray (wcl_one _)⟩
  have HS0 : Bx ((wcl (k, s0)).toArray.size = 65) := ⟨by rw [List.size_toArray, wcl_len s0_sx]⟩
  have HKP : Bx (Kept own w w1) := ⟨hK1⟩
  have HNW : Bx (∀ k, own k → k < w1.heap.size) := ⟨hnw⟩
  have HB1 : Bx (Bts w1 a len cap b) := ⟨hb1⟩
  have HR : Bx (Raw w1 g own n F N O armed left off gf gn vo) := ⟨hR⟩
  clear hR hK1 hnw hb1 hsp H HRY HH HBT HF h2 hO hD1 hkn0 HN HOL
  have hss := sec_slice
  have HBTA : Bx (∀ wA wB G, Below w1.heap.size w1 wA → G = w1.heap.size → Kept (fun k => k = G) wA wB → Bts wB a len cap b) := ⟨fun wA wB G h1 h2 h3 => (HB1.out.below h1).kept h3 (fun hp p hpa e => by
    obtain ⟨b', o', e1, hlt, _⟩ := HB1.out.spot hp
    rw [hpa] at e1
    cases e1
    have e : b' = G := e
    omega)⟩
  go_upto_region 11 with (first
    | (refine wpList_build_w rfl (.tmp 29) rfl k rfl ?_)
    | (refine wpList_alloc_at rfl 120 65 rfl wri_zero ?_; intro v wA cs hcs hrA hbA hvA)
    | (refine wpList_store_var rfl 120 (.tmp 9) (.tmp 30) rfl v cs hrA (wcl (k, s0)).toArray rfl rfl (by rw [HS0.out, hcs.out]) HDI0.out HO0.out ?_; intro wB hrB hkB; have hbB := HBTA.out wA wB v hbA.out hvA.out hkB.out; clear hrA)
    | (refine wpList_copy_splice rfl (.tmp 32) (.tmp 33) 34 34 rfl 5 Tryz.underlying34 Tryz.size5D _ _ _ _ _ _ rfl rfl v 1 (wcl (k, s0)) 120 hrB (bv b) (cp_minD hbB HBL.out) (cp_posD hbB) (by rw [wcl_len s0_sx, bv_length]; have := HBL.out; omega) (bv_one b) v wB (Below.refl _ _) (Nat.le_refl _) ?_; intro w4 hg4 hb4))
  obtain ⟨hR, hkp4, hnv⟩ := var_facts HR.out HKP.out hvA.out hbA.out hkB.out hb4
  have hrow : w4.heap[v]? = some (.cells (wcl (k, P)).toArray 120 (0, 0)) := by have := hg4.out; rw [HSP.out] at this; exact this
  replace HKP : Bx (Kept own w w4) := ⟨hkp4⟩
  obtain ⟨i0, zw, hi0, hz0, hz1, hz2, hzw⟩ := wri_parts
  have HZW : Bx ((Value.agg zw).cells.size = 65) := ⟨hzw⟩
  have HWL : Bx ((wcl (k, P)).length = 1 * 65) := ⟨by rw [wcl_len HPS.out]⟩
  have HPK : Bx ((k, P).1 < n ∧ SxD (k, P).2) := ⟨⟨hkn, HPS.out⟩⟩
  have hdi : (Tryz.prog.info? 120).map (·.size) = some (wcl (k, P)).length := by rw [wcl_len HPS.out]; exact wri_size
  have hds : (Tryz.prog.info? 118).map (·.size) = some (bv P).length := by rw [bv_length, HPS.out.1]; exact sec_size
  have HIS : Bx ((Tryz.prog.info? 118).map (·.size) = some (bv P).toArray.size) := ⟨by rw [List.size_toArray]; exact hds⟩
  have HOS : Bx ((bv P).toArray.all (·.oneCell') = true) := ⟨all_oneCell_toArray (bv_one _)⟩
  clear hg4 hb4 hkB hbB hvA hbA hcs hrB hkp4 HR HB1 HBTA hss HSP HDI0 HO0 HS0 HNW hzw
  simp only [Act.put, List.setIfInBounds_toArray, List.set_cons_zero, List.set_cons_succ]
  go_cut [42] from 35 to 44 (fun s42 wx => ∃ own2 vo2, Raw wx g own2 n F N (O ++ [(k, P)]) armed left off gf gn vo2 ∧ Kept own w wx ∧ (∀ k, own2 k → own k ∨ w.heap.size ≤ k) ∧ ¬ own2 v ∧ wx.heap[v]? = some (.cells (wcl (k, P)).toArray 120 (0, 0)))
  case first =>
    have hk : w4.drew.heap[v]? = some (.cells (wcl (k, P)).toArray 120 (0, 0)) := hrow
    replace hR := hR.drew
    replace HKP : Bx (Kept own w w4.drew) := ⟨HKP.out.drew⟩
    clear hrow
    refine wp_region_held_drew (S := fun W => W.heap[v]? = some (.cells (wcl (k, P)).toArray 120 (0, 0))) (by kernel_rfl) hk (fun _ => ?_)
    generalize w4.drew = wk at hk hR HKP ⊢
    refine wpAnyH_take (i := 0) (oi := ⟨some 35, .move (.tmp 0), 27, "disk.go:121", #[], none⟩) (v := ?vdwr111) rfl (by kernel_rfl) (by kernel_rfl) (by kernel_rfl) (fun _ _ _ h => h) (Or.inl ⟨by rfl, ?ydwr111⟩) hk ?rdwr111
    case ydwr111 => (intro w hSw; (try dsimp only at hSw); go_simp; first | done | with_reducible rfl)
    simp only [Act.put, List.setIfInBounds_toArray, List.set_cons_zero, List.set_cons_succ]
    refine wpAnyH_take (i := 1) (oi := ⟨some 36, .move (.tmp 0), 27, "disk.go:121", #[], none⟩) (v := ?vdwr112) rfl (by kernel_rfl) (by kernel_rfl) (by kernel_rfl) (fun _ _ _ h => h) (Or.inl ⟨by rfl, ?ydwr112⟩) hk ?rdwr112
    case ydwr112 => (intro w hSw; (try dsimp only at hSw); go_simp; first | done | with_reducible rfl)
    simp only [Act.put, List.setIfInBounds_toArray, List.set_cons_zero, List.set_cons_succ]
    refine wpAnyH_take (i := 2) (oi := ⟨some 37, .nilCheck (.tmp 36), 0, "disk.go:121", #[⟨1, .data⟩], none⟩) (v := ?vdwr113) rfl (by kernel_rfl) (by kernel_rfl) (by kernel_rfl) (fun _ _ _ h => h) (Or.inl ⟨by rfl, ?ydwr113⟩) hk ?rdwr113
    case ydwr113 => (intro w hSw; (try dsimp only at hSw); go_simp; first | done | with_reducible rfl)
    simp only [Act.put, List.setIfInBounds_toArray, List.set_cons_zero, List.set_cons_succ]
    refine wpAnyH_take (i := 3) (oi := ⟨some 38, .fieldAddr 89 (.tmp 37) 2, 0, "disk.go:121", #[⟨2, .data⟩], none⟩) (v := ?vdwr114) rfl (by kernel_rfl) (by kernel_rfl) (by kernel_rfl) (fun _ _ _ h => h) (Or.inl ⟨by rfl, ?ydwr114⟩) hk ?rdwr114
    case ydwr114 => (intro w hSw; (try dsimp only at hSw); go_simp; first | done | with_reducible rfl)
    simp only [Act.put, List.setIfInBounds_toArray, List.set_cons_zero, List.set_cons_succ]
    refine wpAnyH_take (i := 5) (oi := ⟨some 40, .load 120 (.tmp 9), 120, "disk.go:121", #[], none⟩) (v := .agg (wcl (k, P)).toArray) rfl (by kernel_rfl) (by kernel_rfl) (by kernel_rfl) (fun _ _ _ h => h) (yieldsIf_load_mid (by rfl) 120 (.tmp 9) rfl v 0 rfl (wcl (k, P)) _ (fun W h => row_range h) Tryz.underlying120 rfl hdi) hk ?_
    simp only [Act.put, List.setIfInBounds_toArray, List.set_cons_zero, List.set_cons_succ]
    refine wpAnyH_ready (rs := [4, 6]) (by decide +kernel) (by simp) ?_
    refine (AllReadyH.cons (o := ⟨some 39, .load 87 (.tmp 38), 87, "disk.go:121", #[⟨3, .data⟩], none⟩) rfl (fun K hK => ?_) (AllReadyH.cons (o := ⟨some 41, .buildSlice 87 1 #[(0, .tmp 40)], 87, "disk.go:121", #[⟨5, .data⟩], none⟩) rfl (fun K hK => ?_) AllReadyH.nil))
    · rw [if_pos (by rfl)]
      have c2 := hR.c2
      go_simp
      clear c2
      refine hK.out _ _ hk (fun _ => ?_)
      clear hK K
      try simp only [Act.put, List.setIfInBounds_toArray, List.set_cons_zero, List.set_cons_succ]
      refine wpAnyH_ready (rs := [6]) (by decide +kernel) (by simp) ?_
      refine AllReadyH.cons (o := ⟨some 41, .buildSlice 87 1 #[(0, .tmp 40)], 87, "disk.go:121", #[⟨5, .data⟩], none⟩) rfl (fun K hK => ?_) AllReadyH.nil
      rw [if_pos (by rfl)]
      refine wp_build_w1 (.tmp 40) rfl (k, P) HPS.out rfl ?_
      intro wk G hG hbA hge
      replace hR := hR.below hbA.out
      replace hk := (hbA.out.block v (row_lt hk)).trans hk
      replace HKP : Bx (Kept own w wk) := ⟨HKP.out.below hbA.out⟩
      clear hbA hge
      simp only [Act.put, List.setIfInBounds_toArray, List.set_cons_zero, List.set_cons_succ]
      refine hK.out _ _ hk (fun _ => ?_)
      clear hK K
      try simp only [Act.put, List.setIfInBounds_toArray, List.set_cons_zero, List.set_cons_succ]
      refine wpAnyH_ready (rs := [7]) (by decide +kernel) (by simp) ?_
      refine AllReadyH.cons (o := ⟨some 42, .call { callee := .builtin Builtin.append, args := #[.tmp 39, .tmp 41], argTypes := #[87, 87] }, 87, "disk.go:121", #[⟨4, .data⟩, ⟨6, .data⟩], none⟩) rfl (fun K hK => ?_) AllReadyH.nil
      refine step_append_lies _ rfl (.tmp 39) (.tmp 41) 87 rfl 0 120 i0 (.agg zw) 65 72 Tryz.underlying87 hi0 hz0 hz1 hz2 HZW.out (by decide) vo O.length (ocl O) rfl hR.opn ⟨G, 0, none⟩ 1 1 (wcl (k, P)) rfl HWL.out (World.news_of_block hG) (wcl_one _) (by decide) (by unfold maxLen; omega) (by omega) (Nat.zero_le _) _ rfl ?_
      intro g4 cap4 w4 hown4 hgr4 hl4 hlt4
      obtain ⟨c2, f2, HV4, HVS, HRS, HKS, HNS⟩ := more_all hR hk hnv HKP.out HLW.out hgr4 hown4 HPK.out hl4
      replace hk := HV4.out
      clear hown4 hgr4 hl4 hlt4 hR HKP HV4 hG
      refine hK.out _ _ hk (fun _ => ?_)
      clear hK K
      try simp only [Act.put, List.setIfInBounds_toArray, List.set_cons_zero, List.set_cons_succ]
      refine wpAnyH_take (i := 8) (oi := ⟨some 43, .nilCheck (.tmp 35), 0, "disk.go:121", #[⟨0, .data⟩, ⟨0, .phase⟩, ⟨1, .phase⟩, ⟨2, .phase⟩, ⟨3, .phase⟩, ⟨4, .phase⟩, ⟨5, .phase⟩, ⟨6, .phase⟩, ⟨7, .phase⟩], none⟩) (v := ?vdwr117) rfl (by kernel_rfl) (by kernel_rfl) (by kernel_rfl) (fun _ _ _ h => h) (Or.inl ⟨by rfl, ?ydwr117⟩) hk ?rdwr117
      case ydwr117 => (intro w hSw; (try dsimp only at hSw); go_simp; first | done | with_reducible rfl)
      simp only [Act.put, List.setIfInBounds_toArray, List.set_cons_zero, List.set_cons_succ]
      refine wpAnyH_take (i := 9) (oi := ⟨some 44, .fieldAddr 89 (.tmp 43) 2, 0, "disk.go:121", #[⟨8, .data⟩, ⟨0, .phase⟩, ⟨1, .phase⟩, ⟨2, .phase⟩, ⟨3, .phase⟩, ⟨4, .phase⟩, ⟨5, .phase⟩, ⟨6, .phase⟩, ⟨7, .phase⟩], none⟩) (v := ?vdwr118) rfl (by kernel_rfl) (by kernel_rfl) (by kernel_rfl) (fun _ _ _ h => h) (Or.inl ⟨by rfl, ?ydwr118⟩) hk ?rdwr118
      case ydwr118 => (intro w hSw; (try dsimp only at hSw); go_simp; first | done | with_reducible rfl)
      simp only [Act.put, List.setIfInBounds_toArray, List.set_cons_zero, List.set_cons_succ]
      refine wpAnyH_ready (rs := [10]) (by decide +kernel) (by simp) ?_
      refine AllReadyH.cons (o := ⟨none, .store 87 (.tmp 44) (.tmp 42), 0, "disk.go:121", #[⟨9, .data⟩, ⟨7, .data⟩, ⟨7, .chain⟩, ⟨0, .phase⟩, ⟨1, .phase⟩, ⟨2, .phase⟩, ⟨3, .phase⟩, ⟨4, .phase⟩, ⟨5, .phase⟩, ⟨6, .phase⟩, ⟨7, .phase⟩], none⟩) rfl (fun K hK => ?_) AllReadyH.nil
      rw [if_pos (by rfl)]
      go_simp
      replace hk := HVS.out
      clear c2 f2
      refine hK.out _ _ hk (fun _ => ?_)
      clear hK K
      try simp only [Act.put, List.setIfInBounds_toArray, List.set_cons_zero, List.set_cons_succ]
      refine wpAnyH_done (by decide +kernel) ?_ _
      generalize w4.setCell ⟨g, 2, none⟩ (.slice (some ⟨g4, 0, none⟩) (O.length + 1) cap4) = wq at hk HRS HKS HNS ⊢
      clear HVS
      go_wp2_with fail
      go_meet
      case rel => exact ⟨_, _, HRS.out, HKS.out, HNS.out.1, HNS.out.2, hk⟩
    · rw [if_pos (by rfl)]
      refine wp_build_w1 (.tmp 40) rfl (k, P) HPS.out rfl ?_
      intro wk G hG hbA hge
      replace hR := hR.below hbA.out
      replace hk := (hbA.out.block v (row_lt hk)).trans hk
      replace HKP : Bx (Kept own w wk) := ⟨HKP.out.below hbA.out⟩
      clear hbA hge
      simp only [Act.put, List.setIfInBounds_toArray, List.set_cons_zero, List.set_cons_succ]
      refine hK.out _ _ hk (fun _ => ?_)
      clear hK K
      try simp only [Act.put, List.setIfInBounds_toArray, List.set_cons_zero, List.set_cons_succ]
      refine wpAnyH_ready (rs := [4]) (by decide +kernel) (by simp) ?_
      refine AllReadyH.cons (o := ⟨some 39, .load 87 (.tmp 38), 87, "disk.go:121", #[⟨3, .data⟩], none⟩) rfl (fun K hK => ?_) AllReadyH.nil
      rw [if_pos (by rfl)]
      have c2 := hR.c2
      go_simp
      clear c2
      refine hK.out _ _ hk (fun _ => ?_)
      clear hK K
      try simp only [Act.put, List.setIfInBounds_toArray, List.set_cons_zero, List.set_cons_succ]
      refine wpAnyH_ready (rs := [7]) (by decide +kernel) (by simp) ?_
      refine AllReadyH.cons (o := ⟨some 42, .call { callee := .builtin Builtin.append, args := #[.tmp 39, .tmp 41], argTypes := #[87, 87] }, 87, "disk.go:121", #[⟨4, .data⟩, ⟨6, .data⟩], none⟩) rfl (fun K hK => ?_) AllReadyH.nil
      refine step_append_lies _ rfl (.tmp 39) (.tmp 41) 87 rfl 0 120 i0 (.agg zw) 65 72 Tryz.underlying87 hi0 hz0 hz1 hz2 HZW.out (by decide) vo O.length (ocl O) rfl hR.opn ⟨G, 0, none⟩ 1 1 (wcl (k, P)) rfl HWL.out (World.news_of_block hG) (wcl_one _) (by decide) (by unfold maxLen; omega) (by omega) (Nat.zero_le _) _ rfl ?_
      intro g4 cap4 w4 hown4 hgr4 hl4 hlt4
      obtain ⟨c2, f2, HV4, HVS, HRS, HKS, HNS⟩ := more_all hR hk hnv HKP.out HLW.out hgr4 hown4 HPK.out hl4
      replace hk := HV4.out
      clear hown4 hgr4 hl4 hlt4 hR HKP HV4 hG
      refine hK.out _ _ hk (fun _ => ?_)
      clear hK K
      try simp only [Act.put, List.setIfInBounds_toArray, List.set_cons_zero, List.set_cons_succ]
      refine wpAnyH_take (i := 8) (oi := ⟨some 43, .nilCheck (.tmp 35), 0, "disk.go:121", #[⟨0, .data⟩, ⟨0, .phase⟩, ⟨1, .phase⟩, ⟨2, .phase⟩, ⟨3, .phase⟩, ⟨4, .phase⟩, ⟨5, .phase⟩, ⟨6, .phase⟩, ⟨7, .phase⟩], none⟩) (v := ?vdwr1112) rfl (by kernel_rfl) (by kernel_rfl) (by kernel_rfl) (fun _ _ _ h => h) (Or.inl ⟨by rfl, ?ydwr1112⟩) hk ?rdwr1112
      case ydwr1112 => (intro w hSw; (try dsimp only at hSw); go_simp; first | done | with_reducible rfl)
      simp only [Act.put, List.setIfInBounds_toArray, List.set_cons_zero, List.set_cons_succ]
      refine wpAnyH_take (i := 9) (oi := ⟨some 44, .fieldAddr 89 (.tmp 43) 2, 0, "disk.go:121", #[⟨8, .data⟩, ⟨0, .phase⟩, ⟨1, .phase⟩, ⟨2, .phase⟩, ⟨3, .phase⟩, ⟨4, .phase⟩, ⟨5, .phase⟩, ⟨6, .phase⟩, ⟨7, .phase⟩], none⟩) (v := ?vdwr1113) rfl (by kernel_rfl) (by kernel_rfl) (by kernel_rfl) (fun _ _ _ h => h) (Or.inl ⟨by rfl, ?ydwr1113⟩) hk ?rdwr1113
      case ydwr1113 => (intro w hSw; (try dsimp only at hSw); go_simp; first | done | with_reducible rfl)
      simp only [Act.put, List.setIfInBounds_toArray, List.set_cons_zero, List.set_cons_succ]
      refine wpAnyH_ready (rs := [10]) (by decide +kernel) (by simp) ?_
      refine AllReadyH.cons (o := ⟨none, .store 87 (.tmp 44) (.tmp 42), 0, "disk.go:121", #[⟨9, .data⟩, ⟨7, .data⟩, ⟨7, .chain⟩, ⟨0, .phase⟩, ⟨1, .phase⟩, ⟨2, .phase⟩, ⟨3, .phase⟩, ⟨4, .phase⟩, ⟨5, .phase⟩, ⟨6, .phase⟩, ⟨7, .phase⟩], none⟩) rfl (fun K hK => ?_) AllReadyH.nil
      rw [if_pos (by rfl)]
      go_simp
      replace hk := HVS.out
      clear c2 f2
      refine hK.out _ _ hk (fun _ => ?_)
      clear hK K
      try simp only [Act.put, List.setIfInBounds_toArray, List.set_cons_zero, List.set_cons_succ]
      refine wpAnyH_done (by decide +kernel) ?_ _
      generalize w4.setCell ⟨g, 2, none⟩ (.slice (some ⟨g4, 0, none⟩) (O.length + 1) cap4) = wq at hk HRS HKS HNS ⊢
      clear HVS
      go_wp2_with fail
      go_meet
      case rel => exact ⟨_, _, HRS.out, HKS.out, HNS.out.1, HNS.out.2, hk⟩
  case rest =>
    clear hR hrow HKP hi0 hz0 hz1 hz2 HZW HWL HPK hdi
    obtain ⟨own2, vo2, hR, hkp, hnew2, hnv2, hrow⟩ := hcut
    have HKP : Bx (Kept own w wc.drew) := ⟨hkp.drew⟩
    have HRN : Bx (Raw wc.drew g own2 n F N (O ++ [(k, P)]) armed left off gf gn vo2) := ⟨hR.drew⟩
    have hk : RawX wc.drew g own2 n (O ++ [(k, P)]) armed left off gf gn vo2 ∧ wc.drew.heap[v]? = some (.cells (wcl (k, P)).toArray 120 (0, 0)) := ⟨hR.drew.x, hrow⟩
    have hknI : (k : Int) < (n : Int) := by omega
    clear hkp hR hrow
    go_upto_region 12 with fail
    refine wp_region_held_drew (S := fun W => RawX W g own2 n (O ++ [(k, P)]) armed left off gf gn vo2 ∧ W.heap[v]? = some (.cells (wcl (k, P)).toArray 120 (0, 0))) (by kernel_rfl) hk (fun _ => ?_)
    generalize wc.drew = wk at hk HKP HRN ⊢
    refine wpAnyH_take (i := 0) (oi := ⟨some 45, .move (.tmp 0), 27, "disk.go:122", #[], none⟩) (v := ?vdwr121) rfl (by kernel_rfl) (by kernel_rfl) (by kernel_rfl) (fun _ _ _ h => h) (Or.inl ⟨by rfl, ?ydwr121⟩) hk ?rdwr121
    case ydwr121 => (intro w hSw; (try dsimp only at hSw); go_simp; first | done | with_reducible rfl)
    simp only [Act.put, List.setIfInBounds_toArray, List.set_cons_zero, List.set_cons_succ]
    refine wpAnyH_take (i := 1) (oi := ⟨some 46, .nilCheck (.tmp 45), 0, "disk.go:122", #[⟨0, .data⟩], none⟩) (v := ?vdwr122) rfl (by kernel_rfl) (by kernel_rfl) (by kernel_rfl) (fun _ _ _ h => h) (Or.inl ⟨by rfl, ?ydwr122⟩) hk ?rdwr122
    case ydwr122 => (intro w hSw; (try dsimp only at hSw); go_simp; first | done | with_reducible rfl)
    simp only [Act.put, List.setIfInBounds_toArray, List.set_cons_zero, List.set_cons_succ]
    refine wpAnyH_take (i := 2) (oi := ⟨some 47, .fieldAddr 89 (.tmp 46) 1, 0, "disk.go:122", #[⟨1, .data⟩], none⟩) (v := ?vdwr123) rfl (by kernel_rfl) (by kernel_rfl) (by kernel_rfl) (fun _ _ _ h => h) (Or.inl ⟨by rfl, ?ydwr123⟩) hk ?rdwr123
    case ydwr123 => (intro w hSw; (try dsimp only at hSw); go_simp; first | done | with_reducible rfl)
    simp only [Act.put, List.setIfInBounds_toArray, List.set_cons_zero, List.set_cons_succ]
    refine wpAnyH_take (i := 3) (oi := ⟨some 48, .load 86 (.tmp 47), 86, "disk.go:122", #[⟨2, .data⟩], none⟩) (v := ?vdwr124) rfl (by kernel_rfl) (by kernel_rfl) (by kernel_rfl) (fun _ _ _ h => h) (Or.inl ⟨by rfl, ?ydwr124⟩) hk ?rdwr124
    case ydwr124 => (intro w hSw; have hcw := hSw.1.c1; clear hSw; go_simp; first | done | with_reducible rfl)
    simp only [Act.put, List.setIfInBounds_toArray, List.set_cons_zero, List.set_cons_succ]
    refine wpAnyH_take (i := 4) (oi := ⟨some 49, .move (.tmp 1), 3, "disk.go:122", #[], none⟩) (v := ?vdwr125) rfl (by kernel_rfl) (by kernel_rfl) (by kernel_rfl) (fun _ _ _ h => h) (Or.inl ⟨by rfl, ?ydwr125⟩) hk ?rdwr125
    case ydwr125 => (intro w hSw; (try dsimp only at hSw); go_simp; first | done | with_reducible rfl)
    simp only [Act.put, List.setIfInBounds_toArray, List.set_cons_zero, List.set_cons_succ]
    refine wpAnyH_take (i := 5) (oi := ⟨some 50, .fieldAddr 120 (.tmp 9) 1, 0, "disk.go:122", #[], none⟩) (v := ?vdwr126) rfl (by kernel_rfl) (by kernel_rfl) (by kernel_rfl) (fun _ _ _ h => h) (Or.inl ⟨by rfl, ?ydwr126⟩) hk ?rdwr126
    case ydwr126 => (intro w hSw; (try dsimp only at hSw); go_simp; first | done | with_reducible rfl)
    simp only [Act.put, List.setIfInBounds_toArray, List.set_cons_zero, List.set_cons_succ]
    refine wpAnyH_take (i := 6) (oi := ⟨some 51, .load 118 (.tmp 50), 118, "disk.go:122", #[⟨5, .data⟩], none⟩) (v := .agg (bv P).toArray) rfl (by kernel_rfl) (by kernel_rfl) (by kernel_rfl) (fun _ _ _ h => h) (yieldsIf_load_mid (by rfl) 118 (.tmp 50) rfl v 1 rfl (bv P) _ (fun W h => row_puts h.2) Tryz.underlying118 rfl hds) hk ?_
    simp only [Act.put, List.setIfInBounds_toArray, List.set_cons_zero, List.set_cons_succ]
    refine wpAnyH_take (i := 7) (oi := ⟨some 52, .indexAddr 86 (.tmp 48) (.tmp 49), 0, "disk.go:122", #[⟨3, .data⟩, ⟨4, .data⟩, ⟨0, .phase⟩, ⟨1, .phase⟩, ⟨2, .phase⟩, ⟨3, .phase⟩, ⟨4, .phase⟩, ⟨5, .phase⟩, ⟨6, .phase⟩], none⟩) (v := ?vdwr127) rfl (by kernel_rfl) (by kernel_rfl) (by kernel_rfl) (fun _ _ _ h => h) (Or.inl ⟨by rfl, ?ydwr127⟩) hk ?rdwr127
    case ydwr127 => (intro w hSw; (try dsimp only at hSw); go_simp; first | done | with_reducible rfl)
    simp only [Act.put, List.setIfInBounds_toArray, List.set_cons_zero, List.set_cons_succ]
    refine wpAnyH_ready (rs := [8]) (by decide +kernel) (by simp) ?_
    refine AllReadyH.cons (o := ⟨none, .store 118 (.tmp 52) (.tmp 51), 0, "disk.go:122", #[⟨7, .data⟩, ⟨6, .data⟩, ⟨0, .phase⟩, ⟨1, .phase⟩, ⟨2, .phase⟩, ⟨3, .phase⟩, ⟨4, .phase⟩, ⟨5, .phase⟩, ⟨6, .phase⟩], none⟩) rfl (fun K hK => ?_) AllReadyH.nil
    rw [if_pos (by rfl)]
    refine wp_store_mid 118 (.tmp 52) (.tmp 51) rfl gn (k * 64) (bv P).toArray rfl rfl ?htdwr128 HIS.out HOS.out ?_
    case htdwr128 => exact there_sz (HRN.out.thereN k hkn) HPS.out
    have hon := HRN.out.on_
    replace HRN : Bx _ := ⟨HRN.out.setNow k hkn P HPS.out⟩
    replace hk := And.intro HRN.out.x (far_row hk.2 (ne_of_own hnv2 hon) (bv P).toArray.toList (k * 64))
    replace HKP : Bx (Kept own w _) := ⟨HKP.out.setCells (hnew2 gn hon) (bv P).toArray.toList (k * 64)⟩
    clear hon
    generalize wk.setCells gn (k * 64) (bv P).toArray.toList = wk at hk HKP HRN ⊢
    simp only [Act.put]
    refine hK.out _ _ hk (fun _ => ?_)
    clear hK K
    try simp only [Act.put, List.setIfInBounds_toArray, List.set_cons_zero, List.set_cons_succ]
    refine wpAnyH_done (by decide +kernel) ?_ _
    go_wp2
    go_ret
    exact ⟨rfl, own2, HDD.out _ _ ⟨gf, gn, vo2, HRN.out⟩, ⟨HKP.out, fun k hk2 => by
      rcases hnew2 k hk2 with h1 | h1
      · exact .inl h1
      · exact .inr ⟨h1, HRN.out.lt k hk2⟩⟩⟩
set_option maxRecDepth 100000 in
set_option maxHeartbeats 400000 in
theorem write_any (g : Nat) (own : Nat → Prop) (s : DS) (x : Int) (a : Option Addr) (len cap : Nat) (b : List Int) (w : World) (h : Dsk w g own s) (hbt : Bts w a len cap b) (hfar : 0 < len → ∀ p, a = some p → ¬ own p.block) (hO : s.O.length ≤ 1000000) :
    Calls Tryz.prog 228 #[.pointer (some ⟨g, 0, none⟩), .int .i64 x, .slice a len cap] w fun e w' => e = .returned (.int .i64 (s.wrE x b)) ∧ ∃ own', Dsk w' g own' (s.wr x b) ∧ Did own w w' own' := by
  have H : Bx (Dsk w g own s) := ⟨h⟩
  have hbl := hbt.len_eq
  have hcc := hbt.le_cap
  have hcm := hbt.cap_le
  unfold maxLen at hcm
  by_cases h1 : s.off = true
  · have HE : Bx (s.wrE x b = 14 ∧ s.wr x b = s ∧ s.rdy = 14) := ⟨by simp [DS.wrE, DS.wr, DS.rdy, h1]⟩
    clear h1 h hbt hfar hO hbl
    go_enter Tryz.func228, Tryz.ntmps228
    go_wp2_with fail
    refine (ready_any g own s _ H.out).mono ?_
    rintro e w' ⟨rfl, rfl⟩
    rw [HE.out.2.2]
    go_wp2
    go_ret
    exact ⟨ret_int HE.out.1.symm, own, by rw [HE.out.2.1]; exact H.out, Did.same (Kept.refl _ _)⟩
  · have h1' : s.off = false := by simpa using h1
    by_cases h2 : s.fits x b = true
    · obtain ⟨h3, h4, h5⟩ := DS.fits_iff.1 h2
      obtain ⟨k, rfl⟩ : ∃ k : Nat, x = k := ⟨x.toNat, by omega⟩
      by_cases h6 : s.last = true
      · have HE : Bx (s.wrE k b = 14 ∧ s.wr k b = s.dead ∧ s.rdy = 0) := ⟨by simp [DS.wrE, DS.wr, DS.rdy, h1', h2, h6]⟩
        have HH : Bx ((decide (0 ≤ (k : Int)) && decide ((k : Int) < (s.F.length : Int))) = true) := ⟨by simp; omega⟩
        have g1 : ¬ (len : Int) > 64 := by omega
        clear h1 h1' h2 h3 h4 h5 h hbt hfar hO hbl
        go_enter Tryz.func228, Tryz.ntmps228
        go_wp2_with fail
        refine (ready_any g own s _ H.out).mono ?_
        rintro e w' ⟨rfl, rfl⟩
        rw [HE.out.2.2]
        go_wp2_with fail
        refine (has_anyD g own s k _ H.out).mono ?_
        rintro e w' ⟨rfl, rfl⟩
        rw [HH.out]
        go_wp2_with fail
        refine (step_last g own s _ H.out h6).mono ?_
        rintro e w1 ⟨rfl, hD1, hK1⟩
        clear h6
        go_wp2
        go_ret
        exact ⟨ret_int HE.out.1.symm, own, by rw [HE.out.2.1]; exact hD1, Did.same hK1⟩
      · have h6' : s.last = false := by simpa using h6
        have e1 : s.wrE k b = 0 := by simp [DS.wrE, h1', h2, h6']
        have e2 : s.wr k b = { s.tick with O := s.O ++ [(k, pad64 b)] } := by simp [DS.wr, h1', h2, h6']
        rw [e1, e2]
        exact write_ok g own s k a len cap b w h hbt hfar h1' h6' (by omega) (by omega) hO
    · have HE : Bx (s.wrE x b = 2 ∧ s.wr x b = s ∧ s.rdy = 0) := ⟨by simp [DS.wrE, DS.wr, DS.rdy, h1', h2]⟩
      have hnf : ¬ (0 ≤ x ∧ x < s.F.length ∧ b.length ≤ 64) := fun hh => h2 (DS.fits_iff.2 hh)
      by_cases h3 : (decide (0 ≤ x) && decide (x < (s.F.length : Int))) = true
      · have h4 : 0 ≤ x ∧ x < s.F.length := by simpa using h3
        have g1 : (len : Int) > 64 := by
          have : ¬ b.length ≤ 64 := fun hh => hnf ⟨h4.1, h4.2, hh⟩
          omega
        have HH : Bx _ := ⟨h3⟩
        clear h1 h1' h2 h3 h4 h hbt hfar hO hbl hnf
        go_enter Tryz.func228, Tryz.ntmps228
        go_wp2_with fail
        refine (ready_any g own s _ H.out).mono ?_
        rintro e w' ⟨rfl, rfl⟩
        rw [HE.out.2.2]
        go_wp2_with fail
        refine (has_anyD g own s x _ H.out).mono ?_
        rintro e w' ⟨rfl, rfl⟩
        rw [HH.out]
        go_wp2
        go_ret
        exact ⟨ret_int HE.out.1.symm, own, by rw [HE.out.2.1]; exact H.out, Did.same (Kept.refl _ _)⟩
      · have h3' : (decide (0 ≤ x) && decide (x < (s.F.length : Int))) = false := by simpa using h3
        have HH : Bx _ := ⟨h3'⟩
        clear h1 h1' h2 h3 h3' h hbt hfar hO hbl hnf
        go_enter Tryz.func228, Tryz.ntmps228
        go_wp2_with fail
        refine (ready_any g own s _ H.out).mono ?_
        rintro e w' ⟨rfl, rfl⟩
        rw [HE.out.2.2]
        go_wp2_with fail
        refine (has_anyD g own s x _ H.out).mono ?_
        rintro e w' ⟨rfl, rfl⟩
        rw [HH.out]
        go_wp2
        go_ret
        exact ⟨ret_int HE.out.1.symm, own, by rw [HE.out.2.1]; exact H.out, Did.same (Kept.refl _ _)⟩
end Go.Proofs.YtipakjenggeflaaGreatDoor
namespace Go.Proofs.YtipakjenggeflaaGreatDoor
open Go.RowKit
set_option linter.unusedVariables false

set_option maxRecDepth 100000 in
theorem Raw.nth {w : World} {g : Nat} {own : Nat → Prop} {n : Nat} {F N : List (List Int)} {O : List (Nat × List Int)} {armed : Bool} {left : Int} {off : Bool} {gf gn : Nat} {ao : Option Addr} {m c : Nat}
    (h : Raw w g own n F N O armed left off gf gn (.slice ao m c)) (j : Nat) (hj : j < O.length) : ∃ go p Z, ao = some ⟨go, 0, none⟩ ∧ O[j]? = some (p, Z) ∧ p < n ∧ SxD Z ∧ w.rangeAt go (j * 65) (wcl (p, Z)) := by
  obtain ⟨go, cap, hv, _, _⟩ := owns_form h.opn (by omega)
  injection hv with h1 h2 h3
  subst h1
  have ho : O[j]? = some O[j] := List.getElem?_eq_getElem hj
  have hop := h.opn
  obtain ⟨h4, h5⟩ := h.ok O[j] (List.getElem_mem hj)
  exact ⟨go, O[j].1, O[j].2, rfl, ho, h4, h5, opn_range hop h.ok j O[j] ho⟩
set_option maxRecDepth 100000 in
theorem wcl_sz {p : Nat} {Z : List Int} (h : SxD Z) : (wcl (p, Z)).toArray.size = 65 := by rw [List.size_toArray, wcl_len h]
set_option maxRecDepth 100000 in
set_option maxHeartbeats 1000000 in
theorem sync_ok (g : Nat) (own : Nat → Prop) (s : DS) (w : World) (h : Dsk w g own s) (h1 : s.off = false) (h2 : s.last = false) (hO : s.O.length ≤ 1000000) :
    Calls Tryz.prog 229 #[.pointer (some ⟨g, 0, none⟩)] w fun e w' => e = .returned (.int .i64 0) ∧ Dsk w' g own { s.tick with F := app s.F s.O, O := [] } ∧ Kept own w w' := by
  have H : Bx (Dsk w g own s) := ⟨h⟩
  have HRY : Bx (s.rdy = 0) := ⟨by simp [DS.rdy, h1]⟩
  clear h h1
  go_enter Tryz.func229, Tryz.ntmps229
  go_wp2_with fail
  refine (ready_any g own s _ H.out).mono ?_
  rintro e w' ⟨rfl, rfl⟩
  rw [HRY.out]
  go_wp2_with fail
  refine (step_on g own s _ H.out h2).mono ?_
  rintro e w1 ⟨rfl, hD1, hK1⟩
  obtain ⟨n, F, N, O, armed, left, off, gf, gn, vo, hR, hOl, HDD⟩ : ∃ n F N O armed left off gf gn vo, Raw w1 g own n F N O armed left off gf gn vo ∧ O.length ≤ 1000000 ∧ Bx (∀ w', (∃ gf gn vo, Raw w' g own n (app F O) N [] armed left off gf gn vo) → Dsk w' g own { s.tick with F := app s.F s.O, O := [] }) := by
    obtain ⟨gf, gn, vo, hR⟩ := hD1
    refine ⟨_, _, _, _, _, _, _, gf, gn, vo, hR, hO, ⟨fun w' hh => ?_⟩⟩
    obtain ⟨gf, gn, vo, hh⟩ := hh
    refine ⟨gf, gn, vo, ?_⟩
    show Raw w' g own (app s.F s.O).length (app s.F s.O) (app (app s.F s.O) []) [] s.armed s.tick.left s.off gf gn vo
    rw [app_len]; exact hh
  obtain ⟨ao, c, rfl⟩ := opn_form hR.opn
  have c2 := hR.c2
  have HR : Bx (∃ Fj, Bx (app Fj (O.drop 0) = app F O) ∧ Raw w1 g own n Fj N O armed left off gf gn (.slice ao O.length c)) := ⟨⟨F, ⟨rfl⟩, hR⟩⟩
  clear hR hD1 H HRY h2 hO
  go_wp2
  clear c2
  go_loopw [22] (fun i wr => ∃ j : Nat, j ≤ O.length ∧ i = .int .i64 j ∧ Kept own w wr ∧ ∃ Fj, Bx (app Fj (O.drop j) = app F O) ∧ Raw wr g own n Fj N O armed left off gf gn (.slice ao O.length c)) (fun i _ => O.length - (intOf i).toNat)
  case atStart => exact ⟨0, Nat.zero_le _, rfl, hK1, HR.out⟩
  case round =>
    clear HR hK1
    obtain ⟨j, hj, rfl, hkp, Fj, HFj, hR⟩ := hrel
    by_cases hlt : j < O.length
    · obtain ⟨go, p, Z, rfl, ho, hpn, hZ, hrg⟩ := hR.nth j hlt
      have HRND := app_round Fj O j (p, Z) ho
      rw [HFj.out] at HRND
      have HRD : Bx _ := ⟨HRND⟩
      have HZS : Bx (SxD Z) := ⟨hZ⟩
      have HR : Bx _ := ⟨hR⟩
      have hdi : (Tryz.prog.info? 120).map (·.size) = some (wcl (p, Z)).length := by rw [wcl_len hZ]; exact wri_size
      have HDI : Bx ((Tryz.prog.info? 120).map (·.size) = some (wcl (p, Z)).toArray.size) := ⟨by rw [wcl_sz hZ]; exact wri_size⟩
      have HDO : Bx ((wcl (p, Z)).toArray.all (·.oneCell') = true) := ⟨all_oneCell_toArray (wcl_one _)⟩
      have HWS : Bx ((wcl (p, Z)).toArray.size = 65) := ⟨wcl_sz hZ⟩
      have hds : (Tryz.prog.info? 118).map (·.size) = some (bv Z).length := by rw [bv_length, hZ.1]; exact sec_size
      have HIS : Bx ((Tryz.prog.info? 118).map (·.size) = some (bv Z).toArray.size) := ⟨by rw [List.size_toArray]; exact hds⟩
      have HOS : Bx ((bv Z).toArray.all (·.oneCell') = true) := ⟨all_oneCell_toArray (bv_one _)⟩
      have hlI : (j : Int) < (O.length : Int) := by omega
      have HKP : Bx _ := ⟨hkp⟩
      clear HRND hR hZ ho HFj hkp
      go_upto_region 10 with (first
        | (refine wpList_load_mid rfl 120 (.tmp 24) rfl go (j * 65) rfl (wcl (p, Z)) _ hrg Tryz.underlying120 rfl hdi ?_; clear hrg)
        | (refine wpList_alloc_at rfl 120 65 rfl wri_zero ?_; intro v wA cs hcs hrA hbA hvA)
        | (refine wpList_store_var rfl 120 (.tmp 6) (.tmp 25) rfl v cs hrA (wcl (p, Z)).toArray rfl rfl (by rw [HWS.out, hcs.out]) HDI.out HDO.out ?_; intro wB hrB hkB; clear hrA))
      obtain ⟨hR, hkp4, hnv⟩ := var_facts HR.out HKP.out hvA.out hbA.out hkB.out (Below.refl _ _)
      replace HKP : Bx (Kept own w wB.drew) := ⟨hkp4.drew⟩
      have HRN : Bx (Raw wB.drew g own n Fj N O armed left off gf gn (.slice (some ⟨go, 0, none⟩) O.length c)) := ⟨hR.drew⟩
      have hk : RawX wB.drew g own n O armed left off gf gn (.slice (some ⟨go, 0, none⟩) O.length c) ∧ wB.drew.heap[v]? = some (.cells (wcl (p, Z)).toArray 120 (0, 0)) := ⟨hR.drew.x, hrB⟩
      have hpI : (p : Int) < (n : Int) := by omega
      clear hR hkp4 hvA hbA hkB hcs hrB HR HDI HDO HWS hdi
      refine wp_region_held_drew (S := fun W => RawX W g own n O armed left off gf gn (.slice (some ⟨go, 0, none⟩) O.length c) ∧ W.heap[v]? = some (.cells (wcl (p, Z)).toArray 120 (0, 0))) (by kernel_rfl) hk (fun _ => ?_)
      generalize wB.drew = wk at hk HKP HRN ⊢
      refine wpAnyH_take (i := 0) (oi := ⟨some 26, .move (.tmp 0), 27, "disk.go:135", #[], none⟩) (v := ?vdsy101) rfl (by kernel_rfl) (by kernel_rfl) (by kernel_rfl) (fun _ _ _ h => h) (Or.inl ⟨by rfl, ?ydsy101⟩) hk ?rdsy101
      case ydsy101 => (intro w hSw; (try dsimp only at hSw); go_simp; first | done | with_reducible rfl)
      simp only [Act.put, List.setIfInBounds_toArray, List.set_cons_zero, List.set_cons_succ]
      refine wpAnyH_take (i := 1) (oi := ⟨some 27, .nilCheck (.tmp 26), 0, "disk.go:135", #[⟨0, .data⟩], none⟩) (v := ?vdsy102) rfl (by kernel_rfl) (by kernel_rfl) (by kernel_rfl) (fun _ _ _ h => h) (Or.inl ⟨by rfl, ?ydsy102⟩) hk ?rdsy102
      case ydsy102 => (intro w hSw; (try dsimp only at hSw); go_simp; first | done | with_reducible rfl)
      simp only [Act.put, List.setIfInBounds_toArray, List.set_cons_zero, List.set_cons_succ]
      refine wpAnyH_take (i := 2) (oi := ⟨some 28, .fieldAddr 89 (.tmp 27) 0, 0, "disk.go:135", #[⟨1, .data⟩], none⟩) (v := ?vdsy103) rfl (by kernel_rfl) (by kernel_rfl) (by kernel_rfl) (fun _ _ _ h => h) (Or.inl ⟨by rfl, ?ydsy103⟩) hk ?rdsy103
      case ydsy103 => (intro w hSw; (try dsimp only at hSw); go_simp; first | done | with_reducible rfl)
      simp only [Act.put, List.setIfInBounds_toArray, List.set_cons_zero, List.set_cons_succ]
      refine wpAnyH_take (i := 3) (oi := ⟨some 29, .load 86 (.tmp 28), 86, "disk.go:135", #[⟨2, .data⟩], none⟩) (v := ?vdsy104) rfl (by kernel_rfl) (by kernel_rfl) (by kernel_rfl) (fun _ _ _ h => h) (Or.inl ⟨by rfl, ?ydsy104⟩) hk ?rdsy104
      case ydsy104 => (intro w hSw; have hcw := hSw.1.c0; clear hSw; go_simp; first | done | with_reducible rfl)
      simp only [Act.put, List.setIfInBounds_toArray, List.set_cons_zero, List.set_cons_succ]
      refine wpAnyH_take (i := 4) (oi := ⟨some 30, .fieldAddr 120 (.tmp 6) 0, 0, "disk.go:135", #[], none⟩) (v := ?vdsy105) rfl (by kernel_rfl) (by kernel_rfl) (by kernel_rfl) (fun _ _ _ h => h) (Or.inl ⟨by rfl, ?ydsy105⟩) hk ?rdsy105
      case ydsy105 => (intro w hSw; (try dsimp only at hSw); go_simp; first | done | with_reducible rfl)
      simp only [Act.put, List.setIfInBounds_toArray, List.set_cons_zero, List.set_cons_succ]
      refine wpAnyH_take (i := 5) (oi := ⟨some 31, .load 3 (.tmp 30), 3, "disk.go:135", #[⟨4, .data⟩], none⟩) (v := ?vdsy106) rfl (by kernel_rfl) (by kernel_rfl) (by kernel_rfl) (fun _ _ _ h => h) (Or.inl ⟨by rfl, ?ydsy106⟩) hk ?rdsy106
      case ydsy106 => (intro w hSw; have hcw := row_num hSw.2; clear hSw; go_simp; first | done | with_reducible rfl)
      simp only [Act.put, List.setIfInBounds_toArray, List.set_cons_zero, List.set_cons_succ]
      refine wpAnyH_take (i := 6) (oi := ⟨some 32, .fieldAddr 120 (.tmp 6) 1, 0, "disk.go:135", #[], none⟩) (v := ?vdsy107) rfl (by kernel_rfl) (by kernel_rfl) (by kernel_rfl) (fun _ _ _ h => h) (Or.inl ⟨by rfl, ?ydsy107⟩) hk ?rdsy107
      case ydsy107 => (intro w hSw; (try dsimp only at hSw); go_simp; first | done | with_reducible rfl)
      simp only [Act.put, List.setIfInBounds_toArray, List.set_cons_zero, List.set_cons_succ]
      refine wpAnyH_take (i := 7) (oi := ⟨some 33, .load 118 (.tmp 32), 118, "disk.go:135", #[⟨6, .data⟩], none⟩) (v := .agg (bv Z).toArray) rfl (by kernel_rfl) (by kernel_rfl) (by kernel_rfl) (fun _ _ _ h => h) (yieldsIf_load_mid (by rfl) 118 (.tmp 32) rfl v 1 rfl (bv Z) _ (fun W h => row_puts h.2) Tryz.underlying118 rfl hds) hk ?_
      simp only [Act.put, List.setIfInBounds_toArray, List.set_cons_zero, List.set_cons_succ]
      refine wpAnyH_take (i := 8) (oi := ⟨some 34, .indexAddr 86 (.tmp 29) (.tmp 31), 0, "disk.go:135", #[⟨3, .data⟩, ⟨5, .data⟩, ⟨0, .phase⟩, ⟨1, .phase⟩, ⟨2, .phase⟩, ⟨3, .phase⟩, ⟨4, .phase⟩, ⟨5, .phase⟩, ⟨6, .phase⟩, ⟨7, .phase⟩], none⟩) (v := ?vdsy108) rfl (by kernel_rfl) (by kernel_rfl) (by kernel_rfl) (fun _ _ _ h => h) (Or.inl ⟨by rfl, ?ydsy108⟩) hk ?rdsy108
      case ydsy108 => (intro w hSw; (try dsimp only at hSw); go_simp; first | done | with_reducible rfl)
      simp only [Act.put, List.setIfInBounds_toArray, List.set_cons_zero, List.set_cons_succ]
      refine wpAnyH_ready (rs := [9]) (by decide +kernel) (by simp) ?_
      refine AllReadyH.cons (o := ⟨none, .store 118 (.tmp 34) (.tmp 33), 0, "disk.go:135", #[⟨8, .data⟩, ⟨7, .data⟩, ⟨0, .phase⟩, ⟨1, .phase⟩, ⟨2, .phase⟩, ⟨3, .phase⟩, ⟨4, .phase⟩, ⟨5, .phase⟩, ⟨6, .phase⟩, ⟨7, .phase⟩], none⟩) rfl (fun K hK => ?_) AllReadyH.nil
      rw [if_pos (by rfl)]
      refine wp_store_mid 118 (.tmp 34) (.tmp 33) rfl gf (p * 64) (bv Z).toArray rfl rfl ?htdsy109 HIS.out HOS.out ?_
      case htdsy109 => exact there_sz (HRN.out.thereF p hpn) HZS.out
      have hon := HRN.out.of_
      replace HRN : Bx _ := ⟨HRN.out.setFast p hpn Z HZS.out⟩
      replace hk := And.intro HRN.out.x (far_row hk.2 (ne_of_own hnv hon) (bv Z).toArray.toList (p * 64))
      replace HKP : Bx (Kept own w _) := ⟨HKP.out.setCells (.inl hon) (bv Z).toArray.toList (p * 64)⟩
      clear hon
      generalize wk.setCells gf (p * 64) (bv Z).toArray.toList = wk at hk HKP HRN ⊢
      simp only [Act.put]
      refine hK.out _ _ hk (fun _ => ?_)
      clear hK K
      try simp only [Act.put, List.setIfInBounds_toArray, List.set_cons_zero, List.set_cons_succ]
      refine wpAnyH_done (by decide +kernel) ?_ _
      clear hk
      go_wp2
      go_roundw
      case rel => exact ⟨j + 1, by omega, by go_num, HKP.out, _, ⟨HRD.out.symm⟩, HRN.out⟩
      case measure => simp [intOf]; omega
    · obtain rfl : j = O.length := by omega
      have HRD : Bx (Fj = app F O) := ⟨by rw [← HFj.out, List.drop_length]; rfl⟩
      have c2 := hR.c2
      have f2 := hR.fr 2
      have HD : Bx (Dsk (wr.setCell ⟨g, 2, none⟩ (.slice none 0 0)) g own { s.tick with F := app s.F s.O, O := [] }) := ⟨HDD.out _ ⟨gf, gn, _, by rw [← HRD.out]; exact hR.setNil⟩⟩
      have HK : Bx (Kept own w (wr.setCell ⟨g, 2, none⟩ (.slice none 0 0))) := ⟨hkp.setCell (.inl hR.og) 2 _⟩
      clear hR hkp HFj HDD HRD
      go_wp2
      go_ret
      exact ⟨rfl, HD.out, HK.out⟩
set_option maxRecDepth 100000 in
set_option maxHeartbeats 400000 in
theorem sync_any (g : Nat) (own : Nat → Prop) (s : DS) (w : World) (h : Dsk w g own s) (hO : s.O.length ≤ 1000000) :
    Calls Tryz.prog 229 #[.pointer (some ⟨g, 0, none⟩)] w fun e w' => e = .returned (.int .i64 s.syE) ∧ Dsk w' g own s.sy ∧ Kept own w w' := by
  have H : Bx (Dsk w g own s) := ⟨h⟩
  by_cases h1 : s.off = true
  · have HE : Bx (s.syE = 14 ∧ s.sy = s ∧ s.rdy = 14) := ⟨by simp [DS.syE, DS.sy, DS.rdy, h1]⟩
    clear h1 h hO
    go_enter Tryz.func229, Tryz.ntmps229
    go_wp2_with fail
    refine (ready_any g own s _ H.out).mono ?_
    rintro e w' ⟨rfl, rfl⟩
    rw [HE.out.2.2]
    go_wp2
    go_ret
    exact ⟨ret_int HE.out.1.symm, by rw [HE.out.2.1]; exact H.out, Kept.refl _ _⟩
  · have h1' : s.off = false := by simpa using h1
    by_cases h6 : s.last = true
    · have HE : Bx (s.syE = 14 ∧ s.sy = s.dead ∧ s.rdy = 0) := ⟨by simp [DS.syE, DS.sy, DS.rdy, h1', h6]⟩
      clear h1 h1' h hO
      go_enter Tryz.func229, Tryz.ntmps229
      go_wp2_with fail
      refine (ready_any g own s _ H.out).mono ?_
      rintro e w' ⟨rfl, rfl⟩
      rw [HE.out.2.2]
      go_wp2_with fail
      refine (step_last g own s _ H.out h6).mono ?_
      rintro e w1 ⟨rfl, hD1, hK1⟩
      clear h6
      go_wp2
      go_ret
      exact ⟨ret_int HE.out.1.symm, by rw [HE.out.2.1]; exact hD1, hK1⟩
    · have h6' : s.last = false := by simpa using h6
      have e1 : s.syE = 0 := by simp [DS.syE, h1', h6']
      have e2 : s.sy = { s.tick with F := app s.F s.O, O := [] } := by simp [DS.sy, h1', h6']
      rw [e1, e2]
      exact sync_ok g own s w h h1' h6' hO
end Go.Proofs.YtipakjenggeflaaGreatDoor
