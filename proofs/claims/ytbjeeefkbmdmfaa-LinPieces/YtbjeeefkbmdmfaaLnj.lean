/- A task: whether a step does an operation, whether a position was met. A task goes on at a new position. A task goes back; the next place that is to be tried. The next place that is to be tried. -/
import Derived.Test.YtbjeeefkbmdmfaaLni
import Derived.Deep.RegionHeld3
import Derived.Deep.CutBlock
namespace Go.Proofs.Ytbjeeefkbmdmfaa
open Go.RowKit
set_option linter.unusedVariables false
open Go.MapKept Go.Maps

/-- whether a step does an operation as it was told -/
def agB (kd : Int) (d : Bool) (r rt : Int) : Bool := (kd == 1) && (!d || r == rt)
set_option maxHeartbeats 1000000 in
theorem agrees_any (X : Opr) (kd t0 t1 t2 t3 rt us : Int) (w : World) :
    Calls Try.prog 60 #[.agg #[.int .i64 X.c, .int .i64 X.o, .int .i64 X.a, .bool X.d, .int .i64 X.r, .int .i64 X.f, .int .i64 X.t], .agg #[.int .i64 kd, .int .i64 t0, .int .i64 t1, .int .i64 t2, .int .i64 t3, .int .i64 rt, .int .i64 us]] w fun e w' => e = .returned (.bool (agB kd X.d X.r rt)) ∧ Below w.heap.size w w' := by
  obtain ⟨xc, xo, xa, xd, xr, xf, xt⟩ := X
  simp only
  have hbl : Below w.heap.size w ((w.alloc (.cells #[.int .i64 xc, .int .i64 xo, .int .i64 xa, .bool xd, .int .i64 xr, .int .i64 xf, .int .i64 xt] 35)).alloc (.cells #[.int .i64 kd, .int .i64 t0, .int .i64 t1, .int .i64 t2, .int .i64 t3, .int .i64 rt, .int .i64 us] 109)) := bstep ((Below.refl _ _).alloc (Nat.le_refl _) _) ((Below.refl _ _).alloc (Nat.le_refl _) _)
  by_cases h1 : kd = 1
  · subst h1
    cases xd with
    | false =>
      rw [show agB 1 false xr rt = true by unfold agB; rfl]
      go_enter Try.func60, Try.ntmps60
      go_wp2_with fail
      go_ret
      exact ⟨rfl, hbl⟩
    | true =>
      obtain ⟨b, hb⟩ : ∃ b, (xr == rt) = b := ⟨_, rfl⟩
      rw [show agB 1 true xr rt = b by unfold agB; rw [hb]; rfl]
      go_enter Try.func60, Try.ntmps60
      go_wp2_with fail
      go_ret
      exact ⟨rfl, hbl⟩
  · have hb : (kd == 1) = false := by simpa using h1
    rw [show agB kd xd xr rt = false by unfold agB; rw [hb]; rfl]
    go_enter Try.func60, Try.ntmps60
    go_wp2_with fail
    go_ret
    exact ⟨rfl, hbl⟩
set_option maxRecDepth 100000 in
theorem zero_nil (w : World) : (zeroValue 98).run Try.prog w = .ok (.agg #[]) w := by rfl
section
variable {D : TD} {w : World} {vF : Value} {F : List Fr} {M : List Ps} {t : Nat} {kd : Int} {vO : Value} {o : List Nat}
set_option maxHeartbeats 2000000 in
theorem was_any (h : Tm D w vF F M t kd vO o) (hk : TDK D) (hM : ∀ y ∈ M, PsK D.n y) (x : Nat) (s0 s1 s2 s3 : Int) (hq : PsK D.n (x, [s0, s1, s2, s3])) :
    Calls Try.prog 61 #[.pointer (some ⟨D.g, 0, none⟩), .agg #[.int .u64 (x : Nat), .int .i64 s0, .int .i64 s1, .int .i64 s2, .int .i64 s3]] w fun e w' => e = .returned (.bool (decide ((x, [s0, s1, s2, s3]) ∈ M))) ∧ Below w.heap.size w w' := by
  obtain ⟨es, ck, hmp, hkm⟩ := h.mp
  obtain ⟨kl, hkl⟩ := psk_key hq hk.n64
  obtain ⟨bq, HBQ⟩ : ∃ b, Bx (decide ((x, [s0, s1, s2, s3]) ∈ M) = b) := ⟨_, ⟨rfl⟩⟩
  rw [HBQ.out]
  have HLK : Bx (∀ W : World, W.heap[D.gM]? = some (.map es ck) → (Instr.lookup 64 (.map (some D.gM)) (.agg #[.int .u64 (x : Nat), .int .i64 s0, .int .i64 s1, .int .i64 s2, .int .i64 s3]) true).run Try.prog W = .ok (.tuple #[.agg #[], .bool bq]) W) := ⟨fun W hW => by
    rcases Km.look (t := 64) (e := 98) spot_keyed Try.underlying64 (zero_nil W) hW hkm hkl true with ⟨h1, h2⟩ | ⟨h1, h2⟩
    · have : bq = true := by rw [← HBQ.out]; exact decide_eq_true ((psV_mem hq hM).1 h1)
      rw [this]; exact h2
    · have : bq = false := by rw [← HBQ.out]; exact decide_eq_false (fun e => h1 ((psV_mem hq hM).2 e))
      rw [this]; exact h2⟩
  obtain ⟨g1, HG1⟩ : ∃ g1, Bx (g1 = w.heap.size) := ⟨_, ⟨rfl⟩⟩
  have hb0 : Below w.heap.size w (w.alloc (.cells #[.int .u64 (x : Nat), .int .i64 s0, .int .i64 s1, .int .i64 s2, .int .i64 s3] 72)) := (Below.refl _ _).alloc (Nat.le_refl _) _
  have HB0 := Bx.mk hb0
  have hr1 := heap_alloc_new w (.cells #[.int .u64 (x : Nat), .int .i64 s0, .int .i64 s1, .int .i64 s2, .int .i64 s3] 72)
  rw [← HG1.out] at hr1
  have HR1 := Bx.mk hr1
  have HRT := Bx.mk (up_row _ _ h.row hb0)
  have HRM := Bx.mk (up_row _ _ hmp hb0)
  clear h hk hM hq hmp hkm hkl hb0 hr1
  go_enter Try.func61, Try.ntmps61
  go_upto_region 1 with fail
  rw [← HG1.out]
  generalize w.alloc (.cells #[.int .u64 (x : Nat), .int .i64 s0, .int .i64 s1, .int .i64 s2, .int .i64 s3] 72) = w0 at HB0 HR1 HRT HRM ⊢
  obtain ⟨Qt, HQ0⟩ : ∃ Qt : World → Prop, Bx (Qt = fun W => (W.heap[D.g]? = some (.cells (tmA D vF t kd vO) 67 (0, 0)) ∧ W.heap[D.gM]? = some (.map es ck)) ∧ W.heap[g1]? = some (.cells #[.int .u64 (x : Nat), .int .i64 s0, .int .i64 s1, .int .i64 s2, .int .i64 s3] 72 (0, 0))) := ⟨_, ⟨rfl⟩⟩
  have HQT : Bx (∀ W, Qt W → (W.heap[D.g]? = some (.cells (tmA D vF t kd vO) 67 (0, 0)) ∧ W.heap[D.gM]? = some (.map es ck)) ∧ W.heap[g1]? = some (.cells #[.int .u64 (x : Nat), .int .i64 s0, .int .i64 s1, .int .i64 s2, .int .i64 s3] 72 (0, 0))) := ⟨fun W h => by rw [HQ0.out] at h; exact h⟩
  have HHK : Bx (HX Qt w0 w0.drew) := ⟨⟨(Below.refl _ _).drew, by
    rw [HQ0.out]
    exact fun W W' h hb => ⟨⟨up_row _ _ h.1.1 hb, up_row _ _ h.1.2 hb⟩, up_row _ _ h.2 hb⟩, by
    rw [HQ0.out]
    exact ⟨⟨up_row _ _ HRT.out (Below.refl _ _).drew, up_row _ _ HRM.out (Below.refl _ _).drew⟩, up_row _ _ HR1.out (Below.refl _ _).drew⟩⟩⟩
  clear HQ0 HRT HRM HR1
  have hk := HHK.out
  clear HHK
  refine wp_region_held_drew (S := fun W => HX Qt w0 W) (by kernel_rfl) hk (fun _ => ?_)
  generalize w0.drew = wk at hk ⊢
  refine wpAnyH_take (i := 0) (oi := { dst := some 8, op := Op.move (Operand.tmp 0), type := 26, pos := "search.go:100", after := #[], guard := none }) (v := ?vtwa11) rfl (by kernel_rfl) (by kernel_rfl) (by kernel_rfl) (fun _ _ _ h => h) (Or.inl ⟨by rfl, ?ytwa11⟩) hk ?rtwa11
  case ytwa11 => (intro w hSw; (try dsimp only at hSw); go_simp; first | done | with_reducible rfl)
  simp only [Act.put, List.setIfInBounds_toArray, List.set_cons_zero, List.set_cons_succ]
  refine wpAnyH_take (i := 1) (oi := { dst := some 9, op := Op.nilCheck (Operand.tmp 8), type := 0, pos := "search.go:100", after := #[{ on := 0, ground := Ground.data }], guard := none }) (v := ?vtwa12) rfl (by kernel_rfl) (by kernel_rfl) (by kernel_rfl) (fun _ _ _ h => h) (Or.inl ⟨by rfl, ?ytwa12⟩) hk ?rtwa12
  case ytwa12 => (intro w hSw; (try dsimp only at hSw); go_simp; first | done | with_reducible rfl)
  simp only [Act.put, List.setIfInBounds_toArray, List.set_cons_zero, List.set_cons_succ]
  refine wpAnyH_take (i := 2) (oi := { dst := some 10, op := Op.fieldAddr 67 (Operand.tmp 9) 6, type := 0, pos := "search.go:100", after := #[{ on := 1, ground := Ground.data }], guard := none }) (v := ?vtwa13) rfl (by kernel_rfl) (by kernel_rfl) (by kernel_rfl) (fun _ _ _ h => h) (Or.inl ⟨by rfl, ?ytwa13⟩) hk ?rtwa13
  case ytwa13 => (intro w hSw; (try dsimp only at hSw); go_simp; first | done | with_reducible rfl)
  simp only [Act.put, List.setIfInBounds_toArray, List.set_cons_zero, List.set_cons_succ]
  refine wpAnyH_take (i := 3) (oi := { dst := some 11, op := Op.load 64 (Operand.tmp 10), type := 64, pos := "search.go:100", after := #[{ on := 2, ground := Ground.data }], guard := none }) (v := ?vtwa14) rfl (by kernel_rfl) (by kernel_rfl) (by kernel_rfl) (fun _ _ _ h => h) (Or.inl ⟨by rfl, ?ytwa14⟩) hk ?rtwa14
  case ytwa14 => (intro w hSw; have hcw := cell_of_row _ D.g 6 _ _ (0, 0) (HQT.out _ hSw.q).1.1; clear hSw; go_simp; first | done | with_reducible rfl)
  simp only [Act.put, List.setIfInBounds_toArray, List.set_cons_zero, List.set_cons_succ]
  refine wpAnyH_take (i := 4) (oi := { dst := some 12, op := Op.load 72 (Operand.tmp 3), type := 72, pos := "search.go:100", after := #[], guard := none }) (v := .agg #[.int .u64 (x : Nat), .int .i64 s0, .int .i64 s1, .int .i64 s2, .int .i64 s3]) rfl (by kernel_rfl) (by kernel_rfl) (by kernel_rfl) (fun _ _ _ h => h) (Or.inl ⟨by rfl, ?ytwa15⟩) hk ?rtwa15
  case ytwa15 => (intro w hSw; have hrw := (HQT.out _ hSw.q).2; have q0 := cell_of_row _ g1 0 _ _ (0, 0) hrw; have q1 := cell_of_row _ g1 1 _ _ (0, 0) hrw; have q2 := cell_of_row _ g1 2 _ _ (0, 0) hrw; have q3 := cell_of_row _ g1 3 _ _ (0, 0) hrw; have q4 := cell_of_row _ g1 4 _ _ (0, 0) hrw; clear hSw hrw; go_simp; first | done | with_reducible rfl)
  simp only [Act.put, List.setIfInBounds_toArray, List.set_cons_zero, List.set_cons_succ]
  refine wpAnyH_take (i := 5) (oi := { dst := some 13, op := Op.lookup 64 (Operand.tmp 11) (Operand.tmp 12) true, type := 129, pos := "search.go:100", after := #[{ on := 3, ground := Ground.data }, { on := 4, ground := Ground.data }], guard := none }) (v := .tuple #[.agg #[], .bool bq]) rfl (by kernel_rfl) (by kernel_rfl) (by kernel_rfl) (fun _ _ _ h => h) (Or.inl ⟨by rfl, ?ytwa16⟩) hk ?rtwa16
  case ytwa16 => (intro w hSw; have hlk := HLK.out _ (HQT.out _ hSw.q).1.2; clear hSw; go_simp; first | done | with_reducible rfl)
  simp only [Act.put, List.setIfInBounds_toArray, List.set_cons_zero, List.set_cons_succ]
  refine wpAnyH_take (i := 6) (oi := { dst := some 7, op := Op.move (Operand.tmp 13), type := 129, pos := "search.go:100", after := #[{ on := 5, ground := Ground.data }], guard := none }) (v := ?vtwa17) rfl (by kernel_rfl) (by kernel_rfl) (by kernel_rfl) (fun _ _ _ h => h) (Or.inl ⟨by rfl, ?ytwa17⟩) hk ?rtwa17
  case ytwa17 => (intro w hSw; (try dsimp only at hSw); go_simp; first | done | with_reducible rfl)
  simp only [Act.put, List.setIfInBounds_toArray, List.set_cons_zero, List.set_cons_succ]
  refine wpAnyH_take (i := 7) (oi := { dst := some 14, op := Op.extract (Operand.tmp 7) 0, type := 98, pos := "search.go:100", after := #[{ on := 6, ground := Ground.data }], guard := none }) (v := ?vtwa18) rfl (by kernel_rfl) (by kernel_rfl) (by kernel_rfl) (fun _ _ _ h => h) (Or.inl ⟨by rfl, ?ytwa18⟩) hk ?rtwa18
  case ytwa18 => (intro w hSw; (try dsimp only at hSw); go_simp; first | done | with_reducible rfl)
  simp only [Act.put, List.setIfInBounds_toArray, List.set_cons_zero, List.set_cons_succ]
  refine wpAnyH_take (i := 8) (oi := { dst := some 15, op := Op.extract (Operand.tmp 7) 1, type := 4, pos := "search.go:100", after := #[{ on := 6, ground := Ground.data }, { on := 10, ground := Ground.gcOnly Departure.lateStores }], guard := none }) (v := ?vtwa19) rfl (by kernel_rfl) (by kernel_rfl) (by kernel_rfl) (fun _ _ _ h => h) (Or.inl ⟨by rfl, ?ytwa19⟩) hk ?rtwa19
  case ytwa19 => (intro w hSw; (try dsimp only at hSw); go_simp; first | done | with_reducible rfl)
  simp only [Act.put, List.setIfInBounds_toArray, List.set_cons_zero, List.set_cons_succ]
  refine wpAnyH_ready (rs := [9]) (by decide +kernel) (by simp) ?_
  refine AllReadyH.cons (o := { dst := some 5, op := Op.alloc 98, type := 0, pos := "search.go:100", after := #[], guard := none }) rfl (fun K hK => ?_) AllReadyH.nil
  go_simp
  replace hk := hk.step ((Below.refl _ _).alloc (Nat.le_refl _) (.cells #[] 98))
  generalize wk.alloc (.cells #[] 98) = wk at hk ⊢
  refine hK.out _ _ hk (fun _ => ?_)
  clear hK K
  try simp only [Act.put, List.setIfInBounds_toArray, List.set_cons_zero, List.set_cons_succ]
  refine wpAnyH_ready (rs := [10]) (by decide +kernel) (by simp) ?_
  refine AllReadyH.cons (o := { dst := none, op := Op.store 98 (Operand.tmp 5) (Operand.tmp 14), type := 0, pos := "search.go:100", after := #[{ on := 9, ground := Ground.data }, { on := 7, ground := Ground.data }, { on := 0, ground := Ground.phase }, { on := 1, ground := Ground.phase }, { on := 2, ground := Ground.phase }, { on := 3, ground := Ground.phase }, { on := 4, ground := Ground.phase }, { on := 5, ground := Ground.phase }, { on := 6, ground := Ground.phase }, { on := 7, ground := Ground.phase }, { on := 8, ground := Ground.textOnly Departure.lateStores }, { on := 9, ground := Ground.phase }], guard := none }) rfl (fun K hK => ?_) AllReadyH.nil
  go_simp
  skip
  refine hK.out _ _ hk (fun _ => ?_)
  clear hK K
  try simp only [Act.put, List.setIfInBounds_toArray, List.set_cons_zero, List.set_cons_succ]
  refine wpAnyH_take (i := 11) (oi := { dst := some 6, op := Op.assign (Operand.tmp 15), type := 4, pos := "search.go:100", after := #[{ on := 8, ground := Ground.data }, { on := 10, ground := Ground.chain }, { on := 0, ground := Ground.phase }, { on := 1, ground := Ground.phase }, { on := 2, ground := Ground.phase }, { on := 3, ground := Ground.phase }, { on := 4, ground := Ground.phase }, { on := 5, ground := Ground.phase }, { on := 6, ground := Ground.phase }, { on := 7, ground := Ground.phase }, { on := 8, ground := Ground.phase }, { on := 9, ground := Ground.phase }, { on := 10, ground := Ground.phase }], guard := none }) (v := ?vtwa110) rfl (by kernel_rfl) (by kernel_rfl) (by kernel_rfl) (fun _ _ _ h => h) (Or.inl ⟨by rfl, ?ytwa110⟩) hk ?rtwa110
  case ytwa110 => (intro w hSw; (try dsimp only at hSw); go_simp; first | done | with_reducible rfl)
  simp only [Act.put, List.setIfInBounds_toArray, List.set_cons_zero, List.set_cons_succ]
  refine wpAnyH_done (by decide +kernel) ?_ _
  have HB8 := Bx.mk hk.low
  clear hk
  go_wp2_with fail
  go_ret
  exact ⟨rfl, bstep HB0.out HB8.out⟩
end
end Go.Proofs.Ytbjeeefkbmdmfaa
namespace Go.Proofs.Ytbjeeefkbmdmfaa
open Go.RowKit
set_option linter.unusedVariables false
open Go.MapKept Go.Maps

set_option maxRecDepth 100000 in
theorem Try.infoFr : (Try.prog.info? 100).map (fun i => (i.zero, i.size, i.bytes)) = some (some (.agg #[.int .u64 0, .int .i64 0, .int .i64 0, .int .i64 0, .int .i64 0, .int .i64 0]), 6, 48) := by kernel_rfl
set_option maxRecDepth 100000 in
theorem own_sl18 {w : World} {base : Nat} {e : TypeId} {size n : Nat} {v : Value} {xs : List Value} (h : w.ownsRow base e size v n xs) : ∃ a c, v = .slice a n c := by
  rcases h.2 with ⟨e, e2⟩ | ⟨g, c, _, e, _⟩
  · exact ⟨none, 0, by rw [e, e2]⟩
  · exact ⟨_, _, e⟩
section
variable {D : TD} {w w' : World} {vF : Value} {F : List Fr} {M : List Ps} {t : Nat} {kd : Int} {vO : Value} {o : List Nat}
set_option maxRecDepth 100000 in
/-- a frame is laid on top -/
theorem Tm.push (h : Tm D w vF F M t kd vO o) (hk : TDK D) {a : Option Addr} {c : Nat} {f : Fr} (ho : w'.ownsRow (D.g + 1) 100 6 (.slice a (F.length + 1) c) (F.length + 1) (F.flatMap frC ++ frC f)) (hg : w.grownBy w' vF.ownBlock) :
    w'.heap[D.g]? = some (.cells (tmA D vF t kd vO) 67 (0, 0)) ∧ Tm D (w'.setCell ⟨D.g, 7, none⟩ (.slice a (F.length + 1) c)) (.slice a (F.length + 1) c) (F ++ [f]) M t kd vO o := by
  have hrow : w'.heap[D.g]? = some (.cells (tmA D vF t kd vO) 67 (0, 0)) := (hg.block D.g h.lt (fun e => by have := (h.ltF _ e.symm).1; omega)).trans h.row
  refine ⟨hrow, ?_⟩
  have hK0 : Kept (ownT D vF) w w' := (Kept.refl _ _).grown hg (fun k e => .inl (.inr (.inr e)))
  have hK : Kept (ownT D vF) w (w'.setCell ⟨D.g, 7, none⟩ (.slice a (F.length + 1) c)) := hK0.setCell (g := D.g) (.inl (.inl rfl)) _ _
  obtain ⟨es, ck, h1, h2⟩ := h.mp
  have hlo := hk.lo
  refine h.upd hk hK (heap_setCell_same w' D.g 7 _ _ _ hrow) ⟨es, ck, ?_, h2⟩ ?_ (h.odk hk hK)
  · rw [heap_setCell_other w' ⟨D.g, 7, none⟩ D.gM _ (show D.gM ≠ D.g by omega)]
    exact (hg.block D.gM h.ltM (fun e => by have := (h.ltF _ e.symm).1; omega)).trans h1
  · rw [List.length_append, List.flatMap_append]
    have := ownsRow_setCell_other ho (a := ⟨D.g, 7, none⟩) (fun e => by have := (ho.lt _ e).1; simp only at this; omega) (.slice a (F.length + 1) c)
    simpa using this
set_option maxHeartbeats 4000000 in
set_option maxRecDepth 100000 in
theorem enter_any (h : Tm D w vF F M t kd vO o) (hk : TDK D) (hM : ∀ y ∈ M, PsK D.n y) (hF : F.length ≤ 1073741824) (x : Nat) (s0 s1 s2 s3 : Int) (hq : PsK D.n (x, [s0, s1, s2, s3])) (hn : ¬ (x, [s0, s1, s2, s3]) ∈ M) :
    Calls Try.prog 34 #[.pointer (some ⟨D.g, 0, none⟩), .agg #[.int .u64 (x : Nat), .int .i64 s0, .int .i64 s1, .int .i64 s2, .int .i64 s3]] w fun e w' => ∃ vF', e = .returned (.tuple #[]) ∧ Tm D w' vF' (F ++ [⟨x, [s0, s1, s2, s3], 0⟩]) (M ++ [(x, [s0, s1, s2, s3])]) t kd vO o ∧ Kept (ownT D vF) w w' ∧ At2 w vF vF' := by
  obtain ⟨kl, hkl⟩ := psk_key hq hk.n64
  have HDK := Bx.mk hk
  have HFL := Bx.mk hF
  obtain ⟨g1, HG1⟩ : ∃ g1, Bx (g1 = w.heap.size) := ⟨_, ⟨rfl⟩⟩
  have hb0 : Below w.heap.size w (w.alloc (.cells #[.int .u64 (x : Nat), .int .i64 s0, .int .i64 s1, .int .i64 s2, .int .i64 s3] 72)) := (Below.refl _ _).alloc (Nat.le_refl _) _
  have HB0 := Bx.mk hb0
  have hr1 := heap_alloc_new w (.cells #[.int .u64 (x : Nat), .int .i64 s0, .int .i64 s1, .int .i64 s2, .int .i64 s3] 72)
  rw [← HG1.out] at hr1
  have HR1 := Bx.mk hr1
  have HTM := Bx.mk (h.below hb0)
  have HGN : Bx (g1 ≠ D.gM) := ⟨by have := h.ltM; rw [HG1.out]; omega⟩
  have HG1N : Bx (g1 ≠ D.g) := ⟨by have := h.lt; rw [HG1.out]; omega⟩
  have hnv : ¬ psV (x, [s0, s1, s2, s3]) ∈ M.map psV := fun e => hn ((psV_mem hq hM).1 e)
  clear h hk hM hF hq hb0 hr1 hn
  go_enter Try.func34, Try.ntmps34
  go_upto_region 1 with fail
  rw [← HG1.out]
  generalize w.alloc (.cells #[.int .u64 (x : Nat), .int .i64 s0, .int .i64 s1, .int .i64 s2, .int .i64 s3] 72) = w0 at HB0 HR1 HTM ⊢
  obtain ⟨es', ck', hup, HKM⟩ : ∃ es' ck', (Instr.mapUpdate 64 (.map (some D.gM)) (.agg #[.int .u64 (x : Nat), .int .i64 s0, .int .i64 s1, .int .i64 s2, .int .i64 s3]) (.agg #[])).run Try.prog w0.drew = .ok () (setK w0.drew D.gM es' ck') ∧ Bx (Km Try.prog 72 (.agg #[]) es' ck' ((M ++ [(x, [s0, s1, s2, s3])]).map psV)) := by
    obtain ⟨es, ck, hmp, hkm⟩ := HTM.out.mp
    obtain ⟨es', ck', h1, h2⟩ := Km.put (w := w0.drew) (t := 64) (e := 98) spot_keyed Try.underlying64 hmp hkm hkl
    refine ⟨es', ck', h1, ⟨?_⟩⟩
    rcases h2 with ⟨h3, _⟩ | ⟨_, h3⟩
    · exact absurd h3 hnv
    · rw [List.map_append]; exact h3
  go_cut [] from 10 to 20 (fun wx => Bx (Tm D wx vF F (M ++ [(x, [s0, s1, s2, s3])]) t kd vO o) ∧ Bx (wx.heap[g1]? = some (.cells #[.int .u64 (x : Nat), .int .i64 s0, .int .i64 s1, .int .i64 s2, .int .i64 s3] 72 (0, 0))) ∧ Bx (Kept (ownT D vF) w wx))
  case first =>
    have hk : w0.drew.heap[D.g]? = some (.cells (tmA D vF t kd vO) 67 (0, 0)) ∧ w0.drew.heap[g1]? = some (.cells #[.int .u64 (x : Nat), .int .i64 s0, .int .i64 s1, .int .i64 s2, .int .i64 s3] 72 (0, 0)) := ⟨HTM.out.row, HR1.out⟩
    have htm : Tm D w0.drew vF F M t kd vO o := HTM.out.below (Below.refl _ _).drew
    have hkp : Kept (ownT D vF) w w0.drew := Kept.of_below HB0.out.drew
    clear HTM HR1 HB0
    refine wp_region_held_drew (S := fun W => W.heap[D.g]? = some (.cells (tmA D vF t kd vO) 67 (0, 0)) ∧ W.heap[g1]? = some (.cells #[.int .u64 (x : Nat), .int .i64 s0, .int .i64 s1, .int .i64 s2, .int .i64 s3] 72 (0, 0))) (by kernel_rfl) hk (fun _ => ?_)
    generalize w0.drew = wk at hk hup htm hkp ⊢
    refine wpAnyH_take (i := 0) (oi := { dst := some 4, op := Op.move (Operand.tmp 0), type := 26, pos := "search.go:37", after := #[], guard := none }) (v := ?vten11) rfl (by kernel_rfl) (by kernel_rfl) (by kernel_rfl) (fun _ _ _ h => h) (Or.inl ⟨by rfl, ?yten11⟩) hk ?rten11
    case yten11 => (intro w hSw; (try dsimp only at hSw); go_simp; first | done | with_reducible rfl)
    simp only [Act.put, List.setIfInBounds_toArray, List.set_cons_zero, List.set_cons_succ]
    refine wpAnyH_take (i := 1) (oi := { dst := some 5, op := Op.nilCheck (Operand.tmp 4), type := 0, pos := "search.go:37", after := #[{ on := 0, ground := Ground.data }], guard := none }) (v := ?vten12) rfl (by kernel_rfl) (by kernel_rfl) (by kernel_rfl) (fun _ _ _ h => h) (Or.inl ⟨by rfl, ?yten12⟩) hk ?rten12
    case yten12 => (intro w hSw; (try dsimp only at hSw); go_simp; first | done | with_reducible rfl)
    simp only [Act.put, List.setIfInBounds_toArray, List.set_cons_zero, List.set_cons_succ]
    refine wpAnyH_take (i := 2) (oi := { dst := some 6, op := Op.fieldAddr 67 (Operand.tmp 5) 6, type := 0, pos := "search.go:37", after := #[{ on := 1, ground := Ground.data }], guard := none }) (v := ?vten13) rfl (by kernel_rfl) (by kernel_rfl) (by kernel_rfl) (fun _ _ _ h => h) (Or.inl ⟨by rfl, ?yten13⟩) hk ?rten13
    case yten13 => (intro w hSw; (try dsimp only at hSw); go_simp; first | done | with_reducible rfl)
    simp only [Act.put, List.setIfInBounds_toArray, List.set_cons_zero, List.set_cons_succ]
    refine wpAnyH_take (i := 3) (oi := { dst := some 7, op := Op.load 64 (Operand.tmp 6), type := 64, pos := "search.go:37", after := #[{ on := 2, ground := Ground.data }], guard := none }) (v := ?vten14) rfl (by kernel_rfl) (by kernel_rfl) (by kernel_rfl) (fun _ _ _ h => h) (Or.inl ⟨by rfl, ?yten14⟩) hk ?rten14
    case yten14 => (intro w hSw; have hcw := cell_of_row _ D.g 6 _ _ (0, 0) hSw.1; clear hSw; go_simp; first | done | with_reducible rfl)
    simp only [Act.put, List.setIfInBounds_toArray, List.set_cons_zero, List.set_cons_succ]
    refine wpAnyH_take (i := 4) (oi := { dst := some 8, op := Op.load 72 (Operand.tmp 3), type := 72, pos := "search.go:37", after := #[], guard := none }) (v := .agg #[.int .u64 (x : Nat), .int .i64 s0, .int .i64 s1, .int .i64 s2, .int .i64 s3]) rfl (by kernel_rfl) (by kernel_rfl) (by kernel_rfl) (fun _ _ _ h => h) (Or.inl ⟨by rfl, ?yten15⟩) hk ?rten15
    case yten15 => (intro w hSw; have hrw := hSw.2; have q0 := cell_of_row _ g1 0 _ _ (0, 0) hrw; have q1 := cell_of_row _ g1 1 _ _ (0, 0) hrw; have q2 := cell_of_row _ g1 2 _ _ (0, 0) hrw; have q3 := cell_of_row _ g1 3 _ _ (0, 0) hrw; have q4 := cell_of_row _ g1 4 _ _ (0, 0) hrw; clear hSw hrw; go_simp; first | done | with_reducible rfl)
    simp only [Act.put, List.setIfInBounds_toArray, List.set_cons_zero, List.set_cons_succ]
    refine wpAnyH_take (i := 5) (oi := { dst := some 9, op := Op.build 98 #[], type := 98, pos := "search.go:37", after := #[], guard := none }) (v := ?vten16) rfl (by kernel_rfl) (by kernel_rfl) (by kernel_rfl) (fun _ _ _ h => h) (Or.inl ⟨by rfl, ?yten16⟩) hk ?rten16
    case yten16 => (intro w hSw; (try dsimp only at hSw); go_simp; first | done | with_reducible rfl)
    simp only [Act.put, List.setIfInBounds_toArray, List.set_cons_zero, List.set_cons_succ]
    refine wpAnyH_ready (rs := [6]) (by decide +kernel) (by simp) ?_
    refine AllReadyH.cons (o := { dst := none, op := Op.mapUpdate 64 (Operand.tmp 7) (Operand.tmp 8) (Operand.tmp 9), type := 0, pos := "search.go:37", after := #[{ on := 3, ground := Ground.data }, { on := 4, ground := Ground.data }, { on := 5, ground := Ground.data }, { on := 0, ground := Ground.phase }, { on := 1, ground := Ground.phase }, { on := 2, ground := Ground.phase }, { on := 3, ground := Ground.phase }, { on := 4, ground := Ground.phase }, { on := 5, ground := Ground.phase }], guard := none }) rfl (fun K hK => ?_) AllReadyH.nil
    go_simp
    have HT2 := Bx.mk (htm.met HDK.out HKM.out)
    have HR2 : Bx ((setK wk D.gM es' ck').heap[g1]? = some (.cells #[.int .u64 (x : Nat), .int .i64 s0, .int .i64 s1, .int .i64 s2, .int .i64 s3] 72 (0, 0))) := ⟨(setK_other wk es' ck' HGN.out).trans hk.2⟩
    have HK2 : Bx (Kept (ownT D vF) w (setK wk D.gM es' ck')) := ⟨setK_kept hkp es' ck' (.inl (.inr (.inl rfl)))⟩
    clear hup HKM htm hkp
    replace hk := And.intro HT2.out.row HR2.out
    generalize setK wk D.gM es' ck' = wk at HT2 HR2 HK2 hk ⊢
    refine hK.out _ _ hk (fun _ => ?_)
    clear hK K
    try simp only [Act.put, List.setIfInBounds_toArray, List.set_cons_zero, List.set_cons_succ]
    refine wpAnyH_done (by decide +kernel) ?_ _
    go_wp2_with fail
    go_meet
    case rel => exact ⟨HT2, HR2, HK2⟩
  case rest =>
    obtain ⟨HT2, HR2, HK2⟩ := hcut
    obtain ⟨w2, hw2⟩ : ∃ w2, w2 = wc := ⟨_, rfl⟩
    subst hw2
    clear HTM HR1 HB0 hup HKM
    have hk : w2.drew.heap[g1]? = some (.cells #[.int .u64 (x : Nat), .int .i64 s0, .int .i64 s1, .int .i64 s2, .int .i64 s3] 72 (0, 0)) := HR2.out
    have htm : Tm D w2.drew vF F (M ++ [(x, [s0, s1, s2, s3])]) t kd vO o := HT2.out.below (Below.refl _ _).drew
    have hkp : Kept (ownT D vF) w w2.drew := HK2.out.drew
    clear HT2 HR2 HK2
    go_upto_region 2 with fail
    refine wp_region_held_drew (S := fun W => W.heap[g1]? = some (.cells #[.int .u64 (x : Nat), .int .i64 s0, .int .i64 s1, .int .i64 s2, .int .i64 s3] 72 (0, 0))) (by kernel_rfl) hk (fun _ => ?_)
    generalize w2.drew = wk at hk htm hkp ⊢
    have c7 := htm.cells.2.2.2.2.2.2.2.1
    refine wpAnyH_take (i := 0) (oi := { dst := some 10, op := Op.move (Operand.tmp 0), type := 26, pos := "search.go:38", after := #[], guard := none }) (v := ?vten21) rfl (by kernel_rfl) (by kernel_rfl) (by kernel_rfl) (fun _ _ _ h => h) (Or.inl ⟨by rfl, ?yten21⟩) hk ?rten21
    case yten21 => (intro w hSw; (try dsimp only at hSw); go_simp; first | done | with_reducible rfl)
    simp only [Act.put, List.setIfInBounds_toArray, List.set_cons_zero, List.set_cons_succ]
    refine wpAnyH_take (i := 1) (oi := { dst := some 11, op := Op.move (Operand.tmp 0), type := 26, pos := "search.go:38", after := #[], guard := none }) (v := ?vten22) rfl (by kernel_rfl) (by kernel_rfl) (by kernel_rfl) (fun _ _ _ h => h) (Or.inl ⟨by rfl, ?yten22⟩) hk ?rten22
    case yten22 => (intro w hSw; (try dsimp only at hSw); go_simp; first | done | with_reducible rfl)
    simp only [Act.put, List.setIfInBounds_toArray, List.set_cons_zero, List.set_cons_succ]
    refine wpAnyH_take (i := 2) (oi := { dst := some 12, op := Op.nilCheck (Operand.tmp 11), type := 0, pos := "search.go:38", after := #[{ on := 1, ground := Ground.data }], guard := none }) (v := ?vten23) rfl (by kernel_rfl) (by kernel_rfl) (by kernel_rfl) (fun _ _ _ h => h) (Or.inl ⟨by rfl, ?yten23⟩) hk ?rten23
    case yten23 => (intro w hSw; (try dsimp only at hSw); go_simp; first | done | with_reducible rfl)
    simp only [Act.put, List.setIfInBounds_toArray, List.set_cons_zero, List.set_cons_succ]
    refine wpAnyH_take (i := 3) (oi := { dst := some 13, op := Op.fieldAddr 67 (Operand.tmp 12) 7, type := 0, pos := "search.go:38", after := #[{ on := 2, ground := Ground.data }], guard := none }) (v := ?vten24) rfl (by kernel_rfl) (by kernel_rfl) (by kernel_rfl) (fun _ _ _ h => h) (Or.inl ⟨by rfl, ?yten24⟩) hk ?rten24
    case yten24 => (intro w hSw; (try dsimp only at hSw); go_simp; first | done | with_reducible rfl)
    simp only [Act.put, List.setIfInBounds_toArray, List.set_cons_zero, List.set_cons_succ]
    refine wpAnyH_take (i := 5) (oi := { dst := some 15, op := Op.load 72 (Operand.tmp 3), type := 72, pos := "search.go:38", after := #[], guard := none }) (v := .agg #[.int .u64 (x : Nat), .int .i64 s0, .int .i64 s1, .int .i64 s2, .int .i64 s3]) rfl (by kernel_rfl) (by kernel_rfl) (by kernel_rfl) (fun _ _ _ h => h) (Or.inl ⟨by rfl, ?yten25⟩) hk ?rten25
    case yten25 => (intro w hSw; have q0 := cell_of_row _ g1 0 _ _ (0, 0) hSw; have q1 := cell_of_row _ g1 1 _ _ (0, 0) hSw; have q2 := cell_of_row _ g1 2 _ _ (0, 0) hSw; have q3 := cell_of_row _ g1 3 _ _ (0, 0) hSw; have q4 := cell_of_row _ g1 4 _ _ (0, 0) hSw; clear hSw; go_simp; first | done | with_reducible rfl)
    simp only [Act.put, List.setIfInBounds_toArray, List.set_cons_zero, List.set_cons_succ]
    refine wpAnyH_take (i := 6) (oi := { dst := some 16, op := Op.build 100 #[(0, Operand.tmp 15)], type := 100, pos := "search.go:38", after := #[{ on := 5, ground := Ground.data }], guard := none }) (v := ?vten26) rfl (by kernel_rfl) (by kernel_rfl) (by kernel_rfl) (fun _ _ _ h => h) (Or.inl ⟨by rfl, ?yten26⟩) hk ?rten26
    case yten26 => (intro w hSw; (try dsimp only at hSw); go_simp; first | done | with_reducible rfl)
    simp only [Act.put, List.setIfInBounds_toArray, List.set_cons_zero, List.set_cons_succ]
    refine wpAnyH_ready (rs := [4, 7]) (by decide +kernel) (by simp) ?_
    refine (AllReadyH.cons (o := { dst := some 14, op := Op.load 65 (Operand.tmp 13), type := 65, pos := "search.go:38", after := #[{ on := 3, ground := Ground.data }], guard := none }) rfl (fun K hK => ?_) (AllReadyH.cons (o := { dst := some 17, op := Op.buildSlice 65 1 #[(0, Operand.tmp 16)], type := 65, pos := "search.go:38", after := #[{ on := 6, ground := Ground.data }], guard := none }) rfl (fun K hK => ?_) AllReadyH.nil))
    · go_simp
      refine hK.out _ _ hk (fun _ => ?_)
      clear hK K
      try simp only [Act.put, List.setIfInBounds_toArray, List.set_cons_zero, List.set_cons_succ]
      refine wpAnyH_ready (rs := [7]) (by decide +kernel) (by simp) ?_
      refine AllReadyH.cons (o := { dst := some 17, op := Op.buildSlice 65 1 #[(0, Operand.tmp 16)], type := 65, pos := "search.go:38", after := #[{ on := 6, ground := Ground.data }], guard := none }) rfl (fun K hK => ?_) AllReadyH.nil
      go_simp
      have hnw := World.news_of_block (heap_alloc_new wk (.cells #[.int .u64 (x : Nat), .int .i64 s0, .int .i64 s1, .int .i64 s2, .int .i64 s3, .int .i64 0] 100))
      have hbA : Below wk.heap.size wk (wk.alloc (.cells #[.int .u64 (x : Nat), .int .i64 s0, .int .i64 s1, .int .i64 s2, .int .i64 s3, .int .i64 0] 100)) := (Below.refl _ _).alloc (Nat.le_refl _) _
      replace hk := up_row _ _ hk hbA
      replace htm := htm.below hbA
      replace hkp := hkp.below hbA
      clear hbA c7
      generalize wk.heap.size = gn1 at hnw ⊢
      generalize wk.alloc (.cells #[.int .u64 (x : Nat), .int .i64 s0, .int .i64 s1, .int .i64 s2, .int .i64 s3, .int .i64 0] 100) = wk at hnw hk htm hkp ⊢
      have c7 := htm.cells.2.2.2.2.2.2.2.1
      refine hK.out _ _ hk (fun _ => ?_)
      clear hK K
      try simp only [Act.put, List.setIfInBounds_toArray, List.set_cons_zero, List.set_cons_succ]
      refine wpAnyH_ready (rs := [8]) (by decide +kernel) (by simp) ?_
      refine AllReadyH.cons (o := { dst := some 18, op := Op.call { callee := Callee.builtin Builtin.append, args := #[Operand.tmp 14, Operand.tmp 17], argTypes := #[65, 65] }, type := 65, pos := "search.go:38", after := #[{ on := 4, ground := Ground.data }, { on := 7, ground := Ground.data }], guard := none }) rfl (fun K hK => ?_) AllReadyH.nil
      rw [if_pos (by rfl)]
      obtain ⟨i0, hi, hz0, hz1, hz2⟩ := info_parts Try.infoFr
      refine wp_append_at (.tmp 14) (.tmp 17) 65 rfl (D.g + 1) 100 i0 (.agg #[.int .u64 0, .int .i64 0, .int .i64 0, .int .i64 0, .int .i64 0, .int .i64 0]) 6 48 Try.underlying65 hi hz0 hz1 hz2 rfl (by decide) vF F.length (F.flatMap frC) rfl htm.fr ⟨gn1, 0, none⟩ 1 1 (frC ⟨x, [s0, s1, s2, s3], 0⟩) rfl rfl hnw (frC_one _) (by decide) (by have := HFL.out; unfold maxLen; omega) (by have := HFL.out; omega) (Nat.succ_le_of_lt htm.lt) ?_
      intro vY wk2 hoY hgY haY
      obtain ⟨aY, cY, rfl⟩ := own_sl18 hoY
      obtain ⟨hrow, htm2⟩ := htm.push HDK.out hoY hgY
      have c7 := cell_of_row _ D.g 7 _ _ (0, 0) hrow
      have f7 := frozen_of_row _ D.g 7 _ _ hrow
      have hfr : vF.ownBlock ≠ some g1 := own_off htm.fr hk (by decide)
      have hkp2 := hkp.grown hgY (fun k e => .inl (.inr (.inr e)))
      have haY2 : At2 w vF (.slice aY (F.length + 1) cY) := by
        rcases haY with e | e
        · exact .inl e
        · exact .inr ⟨_, e, hkp.size⟩
      replace hk : wk2.heap[g1]? = some (.cells #[.int .u64 (x : Nat), .int .i64 s0, .int .i64 s1, .int .i64 s2, .int .i64 s3] 72 (0, 0)) := (hgY.block g1 (Array.getElem?_eq_some_iff.1 hk).1 (fun e => hfr e.symm)).trans hk
      clear htm hkp hoY hgY haY hnw hi hz0 hz1 hz2 hfr
      simp only [Act.put, List.setIfInBounds_toArray, List.set_cons_zero, List.set_cons_succ]
      refine hK.out _ _ hk (fun _ => ?_)
      clear hK K
      try simp only [Act.put, List.setIfInBounds_toArray, List.set_cons_zero, List.set_cons_succ]
      refine wpAnyH_take (i := 9) (oi := { dst := some 19, op := Op.nilCheck (Operand.tmp 10), type := 0, pos := "search.go:38", after := #[{ on := 0, ground := Ground.data }, { on := 0, ground := Ground.phase }, { on := 1, ground := Ground.phase }, { on := 2, ground := Ground.phase }, { on := 3, ground := Ground.phase }, { on := 4, ground := Ground.phase }, { on := 5, ground := Ground.phase }, { on := 6, ground := Ground.phase }, { on := 7, ground := Ground.phase }, { on := 8, ground := Ground.phase }], guard := none }) (v := ?vten28) rfl (by kernel_rfl) (by kernel_rfl) (by kernel_rfl) (fun _ _ _ h => h) (Or.inl ⟨by rfl, ?yten28⟩) hk ?rten28
      case yten28 => (intro w hSw; (try dsimp only at hSw); go_simp; first | done | with_reducible rfl)
      simp only [Act.put, List.setIfInBounds_toArray, List.set_cons_zero, List.set_cons_succ]
      refine wpAnyH_take (i := 10) (oi := { dst := some 20, op := Op.fieldAddr 67 (Operand.tmp 19) 7, type := 0, pos := "search.go:38", after := #[{ on := 9, ground := Ground.data }, { on := 0, ground := Ground.phase }, { on := 1, ground := Ground.phase }, { on := 2, ground := Ground.phase }, { on := 3, ground := Ground.phase }, { on := 4, ground := Ground.phase }, { on := 5, ground := Ground.phase }, { on := 6, ground := Ground.phase }, { on := 7, ground := Ground.phase }, { on := 8, ground := Ground.phase }], guard := none }) (v := ?vten29) rfl (by kernel_rfl) (by kernel_rfl) (by kernel_rfl) (fun _ _ _ h => h) (Or.inl ⟨by rfl, ?yten29⟩) hk ?rten29
      case yten29 => (intro w hSw; (try dsimp only at hSw); go_simp; first | done | with_reducible rfl)
      simp only [Act.put, List.setIfInBounds_toArray, List.set_cons_zero, List.set_cons_succ]
      refine wpAnyH_ready (rs := [11]) (by decide +kernel) (by simp) ?_
      refine AllReadyH.cons (o := { dst := none, op := Op.store 65 (Operand.tmp 20) (Operand.tmp 18), type := 0, pos := "search.go:38", after := #[{ on := 10, ground := Ground.data }, { on := 8, ground := Ground.data }, { on := 8, ground := Ground.chain }, { on := 0, ground := Ground.phase }, { on := 1, ground := Ground.phase }, { on := 2, ground := Ground.phase }, { on := 3, ground := Ground.phase }, { on := 4, ground := Ground.phase }, { on := 5, ground := Ground.phase }, { on := 6, ground := Ground.phase }, { on := 7, ground := Ground.phase }, { on := 8, ground := Ground.phase }], guard := none }) rfl (fun K hK => ?_) AllReadyH.nil
      go_simp
      have hkp3 := hkp2.setCell (g := D.g) (.inl (.inl rfl)) 7 (.slice aY (F.length + 1) cY)
      clear c7 f7 hrow hkp2
      replace hk : (wk2.setCell ⟨D.g, 7, none⟩ (.slice aY (F.length + 1) cY)).heap[g1]? = some (.cells #[.int .u64 (x : Nat), .int .i64 s0, .int .i64 s1, .int .i64 s2, .int .i64 s3] 72 (0, 0)) := (heap_setCell_other wk2 ⟨D.g, 7, none⟩ g1 _ HG1N.out).trans hk
      generalize wk2.setCell ⟨D.g, 7, none⟩ (.slice aY (F.length + 1) cY) = wk3 at hk htm2 hkp3 ⊢
      refine hK.out _ _ hk (fun _ => ?_)
      clear hK K
      try simp only [Act.put, List.setIfInBounds_toArray, List.set_cons_zero, List.set_cons_succ]
      refine wpAnyH_done (by decide +kernel) ?_ _
      go_wp2_with fail
      go_end0
      exact ⟨_, rfl, htm2, hkp3, haY2⟩
    · go_simp
      have hnw := World.news_of_block (heap_alloc_new wk (.cells #[.int .u64 (x : Nat), .int .i64 s0, .int .i64 s1, .int .i64 s2, .int .i64 s3, .int .i64 0] 100))
      have hbA : Below wk.heap.size wk (wk.alloc (.cells #[.int .u64 (x : Nat), .int .i64 s0, .int .i64 s1, .int .i64 s2, .int .i64 s3, .int .i64 0] 100)) := (Below.refl _ _).alloc (Nat.le_refl _) _
      replace hk := up_row _ _ hk hbA
      replace htm := htm.below hbA
      replace hkp := hkp.below hbA
      clear hbA c7
      generalize wk.heap.size = gn1 at hnw ⊢
      generalize wk.alloc (.cells #[.int .u64 (x : Nat), .int .i64 s0, .int .i64 s1, .int .i64 s2, .int .i64 s3, .int .i64 0] 100) = wk at hnw hk htm hkp ⊢
      have c7 := htm.cells.2.2.2.2.2.2.2.1
      refine hK.out _ _ hk (fun _ => ?_)
      clear hK K
      try simp only [Act.put, List.setIfInBounds_toArray, List.set_cons_zero, List.set_cons_succ]
      refine wpAnyH_ready (rs := [4]) (by decide +kernel) (by simp) ?_
      refine AllReadyH.cons (o := { dst := some 14, op := Op.load 65 (Operand.tmp 13), type := 65, pos := "search.go:38", after := #[{ on := 3, ground := Ground.data }], guard := none }) rfl (fun K hK => ?_) AllReadyH.nil
      go_simp
      refine hK.out _ _ hk (fun _ => ?_)
      clear hK K
      try simp only [Act.put, List.setIfInBounds_toArray, List.set_cons_zero, List.set_cons_succ]
      refine wpAnyH_ready (rs := [8]) (by decide +kernel) (by simp) ?_
      refine AllReadyH.cons (o := { dst := some 18, op := Op.call { callee := Callee.builtin Builtin.append, args := #[Operand.tmp 14, Operand.tmp 17], argTypes := #[65, 65] }, type := 65, pos := "search.go:38", after := #[{ on := 4, ground := Ground.data }, { on := 7, ground := Ground.data }], guard := none }) rfl (fun K hK => ?_) AllReadyH.nil
      rw [if_pos (by rfl)]
      obtain ⟨i0, hi, hz0, hz1, hz2⟩ := info_parts Try.infoFr
      refine wp_append_at (.tmp 14) (.tmp 17) 65 rfl (D.g + 1) 100 i0 (.agg #[.int .u64 0, .int .i64 0, .int .i64 0, .int .i64 0, .int .i64 0, .int .i64 0]) 6 48 Try.underlying65 hi hz0 hz1 hz2 rfl (by decide) vF F.length (F.flatMap frC) rfl htm.fr ⟨gn1, 0, none⟩ 1 1 (frC ⟨x, [s0, s1, s2, s3], 0⟩) rfl rfl hnw (frC_one _) (by decide) (by have := HFL.out; unfold maxLen; omega) (by have := HFL.out; omega) (Nat.succ_le_of_lt htm.lt) ?_
      intro vY wk2 hoY hgY haY
      obtain ⟨aY, cY, rfl⟩ := own_sl18 hoY
      obtain ⟨hrow, htm2⟩ := htm.push HDK.out hoY hgY
      have c7 := cell_of_row _ D.g 7 _ _ (0, 0) hrow
      have f7 := frozen_of_row _ D.g 7 _ _ hrow
      have hfr : vF.ownBlock ≠ some g1 := own_off htm.fr hk (by decide)
      have hkp2 := hkp.grown hgY (fun k e => .inl (.inr (.inr e)))
      have haY2 : At2 w vF (.slice aY (F.length + 1) cY) := by
        rcases haY with e | e
        · exact .inl e
        · exact .inr ⟨_, e, hkp.size⟩
      replace hk : wk2.heap[g1]? = some (.cells #[.int .u64 (x : Nat), .int .i64 s0, .int .i64 s1, .int .i64 s2, .int .i64 s3] 72 (0, 0)) := (hgY.block g1 (Array.getElem?_eq_some_iff.1 hk).1 (fun e => hfr e.symm)).trans hk
      clear htm hkp hoY hgY haY hnw hi hz0 hz1 hz2 hfr
      simp only [Act.put, List.setIfInBounds_toArray, List.set_cons_zero, List.set_cons_succ]
      refine hK.out _ _ hk (fun _ => ?_)
      clear hK K
      try simp only [Act.put, List.setIfInBounds_toArray, List.set_cons_zero, List.set_cons_succ]
      refine wpAnyH_take (i := 9) (oi := { dst := some 19, op := Op.nilCheck (Operand.tmp 10), type := 0, pos := "search.go:38", after := #[{ on := 0, ground := Ground.data }, { on := 0, ground := Ground.phase }, { on := 1, ground := Ground.phase }, { on := 2, ground := Ground.phase }, { on := 3, ground := Ground.phase }, { on := 4, ground := Ground.phase }, { on := 5, ground := Ground.phase }, { on := 6, ground := Ground.phase }, { on := 7, ground := Ground.phase }, { on := 8, ground := Ground.phase }], guard := none }) (v := ?vten211) rfl (by kernel_rfl) (by kernel_rfl) (by kernel_rfl) (fun _ _ _ h => h) (Or.inl ⟨by rfl, ?yten211⟩) hk ?rten211
      case yten211 => (intro w hSw; (try dsimp only at hSw); go_simp; first | done | with_reducible rfl)
      simp only [Act.put, List.setIfInBounds_toArray, List.set_cons_zero, List.set_cons_succ]
      refine wpAnyH_take (i := 10) (oi := { dst := some 20, op := Op.fieldAddr 67 (Operand.tmp 19) 7, type := 0, pos := "search.go:38", after := #[{ on := 9, ground := Ground.data }, { on := 0, ground := Ground.phase }, { on := 1, ground := Ground.phase }, { on := 2, ground := Ground.phase }, { on := 3, ground := Ground.phase }, { on := 4, ground := Ground.phase }, { on := 5, ground := Ground.phase }, { on := 6, ground := Ground.phase }, { on := 7, ground := Ground.phase }, { on := 8, ground := Ground.phase }], guard := none }) (v := ?vten212) rfl (by kernel_rfl) (by kernel_rfl) (by kernel_rfl) (fun _ _ _ h => h) (Or.inl ⟨by rfl, ?yten212⟩) hk ?rten212
      case yten212 => (intro w hSw; (try dsimp only at hSw); go_simp; first | done | with_reducible rfl)
      simp only [Act.put, List.setIfInBounds_toArray, List.set_cons_zero, List.set_cons_succ]
      refine wpAnyH_ready (rs := [11]) (by decide +kernel) (by simp) ?_
      refine AllReadyH.cons (o := { dst := none, op := Op.store 65 (Operand.tmp 20) (Operand.tmp 18), type := 0, pos := "search.go:38", after := #[{ on := 10, ground := Ground.data }, { on := 8, ground := Ground.data }, { on := 8, ground := Ground.chain }, { on := 0, ground := Ground.phase }, { on := 1, ground := Ground.phase }, { on := 2, ground := Ground.phase }, { on := 3, ground := Ground.phase }, { on := 4, ground := Ground.phase }, { on := 5, ground := Ground.phase }, { on := 6, ground := Ground.phase }, { on := 7, ground := Ground.phase }, { on := 8, ground := Ground.phase }], guard := none }) rfl (fun K hK => ?_) AllReadyH.nil
      go_simp
      have hkp3 := hkp2.setCell (g := D.g) (.inl (.inl rfl)) 7 (.slice aY (F.length + 1) cY)
      clear c7 f7 hrow hkp2
      replace hk : (wk2.setCell ⟨D.g, 7, none⟩ (.slice aY (F.length + 1) cY)).heap[g1]? = some (.cells #[.int .u64 (x : Nat), .int .i64 s0, .int .i64 s1, .int .i64 s2, .int .i64 s3] 72 (0, 0)) := (heap_setCell_other wk2 ⟨D.g, 7, none⟩ g1 _ HG1N.out).trans hk
      generalize wk2.setCell ⟨D.g, 7, none⟩ (.slice aY (F.length + 1) cY) = wk3 at hk htm2 hkp3 ⊢
      refine hK.out _ _ hk (fun _ => ?_)
      clear hK K
      try simp only [Act.put, List.setIfInBounds_toArray, List.set_cons_zero, List.set_cons_succ]
      refine wpAnyH_done (by decide +kernel) ?_ _
      go_wp2_with fail
      go_end0
      exact ⟨_, rfl, htm2, hkp3, haY2⟩
end
end Go.Proofs.Ytbjeeefkbmdmfaa
namespace Go.Proofs.Ytbjeeefkbmdmfaa
open Go.RowKit
set_option linter.unusedVariables false
open Go.MapKept Go.Maps

section
variable {D : TD} {w w' : World} {F B : List Fr} {f f' : Fr} {M : List Ps} {t : Nat} {kd : Int} {vO : Value} {o : List Nat} {gF cF : Nat}
set_option maxHeartbeats 1000000 in
theorem leave_nil (h : Tm D w (.slice (some ⟨gF, 0, none⟩) 1 cF) [f] M t kd vO o) (hk : TDK D) :
    Calls Try.prog 57 #[.pointer (some ⟨D.g, 0, none⟩)] w fun e w' => e = .returned (.tuple #[]) ∧ Tm D w' (.slice (some ⟨gF, 0, none⟩) 0 cF) [] M t kd vO o ∧ Kept (ownT D (.slice (some ⟨gF, 0, none⟩) 1 cF)) w w' := by
  obtain ⟨_, _, _, _, _, _, _, c7, _⟩ := h.cells
  have f7 := h.froz 7
  have hP := Tm.pop (B := []) (h.below (Below.refl _ _).drew) hk
  have HP := Bx.mk hP
  have HKP : Bx (Kept (ownT D (.slice (some ⟨gF, 0, none⟩) 1 cF)) w (w.drew.setCell ⟨D.g, 7, none⟩ (.slice (some ⟨gF, 0, none⟩) 0 cF))) := ⟨(Kept.refl _ _).drew.setCell (g := D.g) (.inl (.inl rfl)) _ _⟩
  have c7' := hP.cells.2.2.2.2.2.2.2.1
  clear h hk hP
  go_enter Try.func57, Try.ntmps57
  go_upto_region 0 with fail
  go_region
  go_wp2_with fail
  go_end0
  exact ⟨rfl, HP.out, HKP.out⟩
set_option maxHeartbeats 1000000 in
theorem leave_snoc (h : Tm D w (.slice (some ⟨gF, 0, none⟩) (B.length + 1 + 1) cF) (B ++ [f'] ++ [f]) M t kd vO o) (hk : TDK D) (hB : B.length ≤ 1073741824) (hkk : f'.k ≤ 64) :
    Calls Try.prog 57 #[.pointer (some ⟨D.g, 0, none⟩)] w fun e w' => e = .returned (.tuple #[]) ∧ Tm D w' (.slice (some ⟨gF, 0, none⟩) (B.length + 1) cF) (B ++ [⟨f'.x, f'.S, f'.k + 1⟩]) M t kd vO o ∧ Kept (ownT D (.slice (some ⟨gF, 0, none⟩) (B.length + 1 + 1) cF)) w w' := by
  obtain ⟨_, _, _, _, _, _, _, c7, _⟩ := h.cells
  have f7 := h.froz 7
  have hln : (B ++ [f']).length = B.length + 1 := by simp
  have hP := Tm.pop (B := B ++ [f']) (gF := gF) (cF := cF) (by rw [hln]; exact h) hk
  rw [hln] at hP
  replace hP := hP.below (Below.refl _ _).drew
  have HP := Bx.mk hP
  have hcap : ((B.length + 1 : Nat) : Int) ≤ (cF : Int) := by
    obtain ⟨_, _, e, _, h1, _⟩ := hP.form
    cases e; omega
  have HKP : Bx (Kept (ownT D (.slice (some ⟨gF, 0, none⟩) (B.length + 1 + 1) cF)) w (w.setCell ⟨D.g, 7, none⟩ (.slice (some ⟨gF, 0, none⟩) (B.length + 1) cF)).drew) := ⟨((Kept.refl _ _).setCell (g := D.g) (.inl (.inl rfl)) _ _).drew⟩
  have HDK := Bx.mk hk
  have HBL := Bx.mk hB
  obtain ⟨L, HL⟩ : ∃ L : Nat, Bx (B.length = L) := ⟨_, ⟨rfl⟩⟩
  rw [HL.out] at c7 hcap
  have hL := HBL.out
  rw [HL.out] at hL
  have hw : IntKind.i64.wrap (((L + 1 + 1 : Nat) : Int) - 1) = ((L + 1 : Nat) : Int) := by rw [show ((L + 1 + 1 : Nat) : Int) - 1 = ((L + 1 : Nat) : Int) by omega]; exact IntWalk.i64_in _ (by omega)
  rw [HL.out] at HP HKP ⊢
  have c7' := HP.out.cells.2.2.2.2.2.2.2.1
  clear h hk hP hB hln
  go_enter Try.func57, Try.ntmps57
  go_upto_region 0 with fail
  go_region
  go_upto_region 1 with fail
  generalize (w.setCell ⟨D.g, 7, none⟩ (.slice (some ⟨gF, 0, none⟩) (L + 1) cF)).drew = w1 at HP HKP c7' ⊢
  go_wp2_with fail
  rw [← HL.out] at HP
  refine (last_any HP.out HBL.out).mono ?_
  rintro e w2 ⟨rfl, q, rfl⟩
  have HP2 := Bx.mk (HP.out.drewN q)
  have HKP2 := Bx.mk (HKP.out.drewN q)
  clear HP HKP c7 c7' f7
  generalize w1.drewN q = w2 at HP2 HKP2 ⊢
  have x5 := HP2.out.top.2.2.2.2.2
  have fz := HP2.out.frozF (B.length * 6 + 5)
  have HP3 := Bx.mk (HP2.out.place HDK.out (f'.k + 1))
  have HKP3 : Bx (Kept (ownT D (.slice (some ⟨gF, 0, none⟩) (L + 1 + 1) cF)) w (w2.setCell ⟨gF, B.length * 6 + 5, none⟩ (.int .i64 ((f'.k + 1 : Nat) : Int)))) := ⟨HKP2.out.setCell (g := gF) (.inl (.inr (.inr rfl))) _ _⟩
  rw [HL.out] at x5 fz HP3 HKP3 ⊢
  clear HP2 HKP2
  go_wp2_with fail
  go_end0
  exact ⟨rfl, HP3.out, HKP3.out⟩
end
end Go.Proofs.Ytbjeeefkbmdmfaa
namespace Go.Proofs.Ytbjeeefkbmdmfaa
open Go.RowKit
set_option linter.unusedVariables false
open Go.MapKept Go.Maps

section
variable {D : TD} {x i : Nat} {S : List Int}
set_option maxRecDepth 100000 in
theorem in_bits (h : i < D.n) : inP (psO D.n (x, S)) i = x.testBit i := bs_get h
set_option maxRecDepth 100000 in
theorem free_bits (hk : TDK D) (hi : i < D.n) : (srO D.l D.fu D.ops).free (psO D.n (x, S)) i = (!x.testBit i && inB D.n (D.A.getD i 0) x) := by
  rw [Bool.eq_iff_iff, free_iff, hk.len, in_bits hi]
  simp only [Bool.and_eq_true, Bool.not_eq_true', inB_iff]
  constructor
  · rintro ⟨_, h1, h2⟩
    refine ⟨h1, fun k hkn hb => ?_⟩
    rw [← in_bits (D := D) (S := S) hkn]
    exact h2 k hkn (by rw [← (hk.ah i hi).2 k hkn]; exact hb)
  · rintro ⟨h1, h2⟩
    refine ⟨hi, h1, fun k hkn hb => ?_⟩
    rw [in_bits hkn]
    exact h2 k hkn (by rw [(hk.ah i hi).2 k hkn]; exact hb)
set_option maxRecDepth 100000 in
theorem full_bits (hk : TDK D) : (srO D.l D.fu D.ops).full (psO D.n (x, S)) = inB D.n D.dn x := by
  rw [Bool.eq_iff_iff, full_iff, hk.len, inB_iff]
  constructor
  · intro h k hkn hb
    rw [← in_bits (D := D) (S := S) hkn]
    exact h k hkn (by rw [← hk.dn.2 k hkn]; exact hb)
  · intro h k hkn hb
    rw [in_bits hkn]
    exact h k hkn (by rw [hk.dn.2 k hkn]; exact hb)
end
/-- the next place from k on -/
structure DuP (D : TD) (x : Nat) (S : List Int) (k j : Nat) : Prop where
  ge : k ≤ j
  le : j ≤ D.n
  no : ∀ i, k ≤ i → i < j → (srO D.l D.fu D.ops).free (psO D.n (x, S)) i = false
  yes : j < D.n → (srO D.l D.fu D.ops).free (psO D.n (x, S)) j = true
section
variable {D : TD} {w w' : World} {vF : Value} {F : List Fr} {M : List Ps} {t : Nat} {kd : Int} {vO : Value} {o : List Nat}
set_option maxHeartbeats 2000000 in
theorem due_any (h : Tm D w vF F M t kd vO o) (hk : TDK D) (x : Nat) (S : List Int) (hx : x < 2 ^ D.n) (k : Nat) (hkn : k ≤ D.n) :
    Calls Try.prog 56 #[.pointer (some ⟨D.g, 0, none⟩), .int .u64 (x : Nat), .int .i64 (k : Nat)] w fun e w' => ∃ j : Nat, e = .returned (.int .i64 (j : Nat)) ∧ DuP D x S k j ∧ Below w.heap.size w w' := by
  have HDK := Bx.mk hk
  have H := Bx.mk h
  have hx64 := low64 hk.n64 hx
  have HX64 := Bx.mk hx64
  have hn64 := hk.n64
  have c3 := h.cells.2.2.2.1
  obtain ⟨n, HN⟩ : ∃ n, Bx (D.n = n) := ⟨_, ⟨rfl⟩⟩
  rw [HN.out] at hn64 hkn c3
  clear h hk hx hx64
  go_enter Try.func56, Try.ntmps56
  go_wp2_with fail
  go_loopw [7] (fun i wr => ∃ j : Nat, j ≤ n ∧ i = .int .i64 (j : Nat) ∧ Bx (k ≤ j ∧ ∀ i, k ≤ i → i < j → (srO D.l D.fu D.ops).free (psO D.n (x, S)) i = false) ∧ Bx (Below w.heap.size w wr)) (fun i _ => n - (intOf i).toNat)
  case atStart => exact ⟨k, hkn, rfl, ⟨Nat.le_refl _, fun i h1 h2 => absurd h1 (by omega)⟩, ⟨Below.refl _ _⟩⟩
  case round =>
    obtain ⟨j, hj0, rfl, HA, HB⟩ := hrel
    have HT := Bx.mk (H.out.below HB.out)
    have z3 := HT.out.cells.2.2.2.1
    have z5 := HT.out.cells.2.2.2.2.2.1
    rw [HN.out] at z3 z5
    clear c3
    by_cases hlt : j < n
    · have hjI : (j : Int) < (n : Int) := by omega
      obtain ⟨b, off, ea, _, za⟩ := HT.out.ah.st j (by rw [HN.out]; exact hlt)
      have HAK := Bx.mk (HDK.out.ah j (by rw [HN.out]; exact hlt)).1
      have HFB := Bx.mk (free_bits (x := x) (S := S) HDK.out (i := j) (by rw [HN.out]; exact hlt))
      obtain ⟨y, HY⟩ : ∃ y, Bx (D.A.getD j 0 = y) := ⟨_, ⟨rfl⟩⟩
      rw [HY.out] at za HAK HFB
      rw [ea] at z5
      clear ea
      go_wp2_with fail
      refine (has_any x j (by omega) HX64.out _).mono ?_
      rintro e w1 ⟨rfl, hw1⟩
      obtain rfl : wr = w1 := hw1.symm
      clear hw1
      cases hbt : x.testBit j with
      | true =>
        rw [hbt] at HFB
        have HA2 : Bx (k ≤ j + 1 ∧ ∀ i, k ≤ i → i < j + 1 → (srO D.l D.fu D.ops).free (psO D.n (x, S)) i = false) := ⟨by have := HA.out.1; omega, fun i h1 h2 => by
          by_cases e : i = j
          · rw [e]; exact HFB.out
          · exact HA.out.2 i h1 (by omega)⟩
        clear hbt
        go_wp2_with fail
        go_roundw
        case rel => exact ⟨j + 1, by omega, by go_num, HA2, HB⟩
        case measure => simp [intOf]; omega
      | false =>
        rw [hbt] at HFB
        clear hbt
        go_wp2_with fail
        refine (within_any D.n y x HDK.out.n64 HAK.out HX64.out _).mono ?_
        rintro e w1 ⟨rfl, hw1⟩
        obtain rfl : wr = w1 := hw1.symm
        clear hw1
        cases hin : inB D.n y x with
        | true =>
          rw [hin] at HFB
          have HP : Bx (DuP D x S k j) := ⟨⟨HA.out.1, by rw [HN.out]; omega, HA.out.2, fun _ => HFB.out⟩⟩
          clear hin
          go_wp2_with fail
          go_ret
          exact ⟨j, rfl, HP.out, HB.out⟩
        | false =>
          rw [hin] at HFB
          have HA2 : Bx (k ≤ j + 1 ∧ ∀ i, k ≤ i → i < j + 1 → (srO D.l D.fu D.ops).free (psO D.n (x, S)) i = false) := ⟨by have := HA.out.1; omega, fun i h1 h2 => by
            by_cases e : i = j
            · rw [e]; exact HFB.out
            · exact HA.out.2 i h1 (by omega)⟩
          clear hin
          go_wp2_with fail
          go_roundw
          case rel => exact ⟨j + 1, by omega, by go_num, HA2, HB⟩
          case measure => simp [intOf]; omega
    · have hjI : ¬ (j : Int) < (n : Int) := by omega
      obtain rfl : j = n := by omega
      have HP : Bx (DuP D x S k j) := ⟨⟨HA.out.1, by rw [HN.out]; omega, HA.out.2, fun h => by rw [HN.out] at h; omega⟩⟩
      go_wp2_with fail
      go_ret
      exact ⟨j, rfl, HP.out, HB.out⟩
end
end Go.Proofs.Ytbjeeefkbmdmfaa
