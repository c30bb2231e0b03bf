/- A number on the stack of the document's own run. -/
import Derived.Test.YtbjeeefkbmdmfaaRVRun
import Derived.Laws.AppendOwnNone
import Derived.Deep.CutRange
namespace Go.Proofs.Ytbjeeefkbmdmfaa
open Go.RowKit
set_option linter.unusedVariables false

set_option maxRecDepth 100000 in
theorem Try.infoI64 : (Try.prog.info? 2).map (fun i => (i.zero, i.size, i.bytes)) = some (some (.int .i64 0), 1, 8) := by kernel_rfl
set_option maxRecDepth 100000 in
/-- numbers of whatever make behind an own list -/
theorem wp_append_ivs {o : Oper} {a : Act} {w : World} {K : Act → World → Prop} {Q : Exit → Act → World → Prop} (s x : Operand)
    (ho : o.op = .call { callee := .builtin .append, args := #[s, x], argTypes := #[131, 131] })
    (base n : Nat) (v : Value) (l : List Int) (hs : a.eval s = v) (hown : w.ownsRow base 2 1 v n (l.flatMap ivC))
    (ao : Option Addr) (m c : Nat) (l2 : List Int) (hx : a.eval x = .slice ao m c) (hb : Ivs w ao m c l2) (h63 : n + m ≤ 1000000) (hbase : base ≤ w.heap.size)
    (h : ∀ v' w', w'.ownsRow base 2 1 v' (n + m) ((l ++ l2).flatMap ivC) → Below base w w' → K (a.put o.dst v') w') : o.wp Try.prog a w K Q := by
  obtain ⟨i0, hi, hz0, hz1, hz2⟩ := info_parts Try.infoI64
  cases ao with
  | none =>
    have h0 := hb.nil rfl
    have h1 := hb.le_cap
    obtain rfl : c = 0 := h0
    obtain rfl : m = 0 := by omega
    obtain rfl : l2 = [] := List.eq_nil_of_length_eq_zero hb.len_eq
    have hrun := run_append_owned_none (P := Try.prog) (w := w) base 131 o.type 2 i0 1 Try.underlying131 hi v n (l.flatMap ivC) hown
    unfold Oper.wp
    simp [execOp, ho, resolve, invoke, builtin, hs, hx, hrun, Result.andThen]
    exact h _ _ (by rw [List.append_nil]; exact hown) (Below.refl _ _)
  | some ad =>
    have hl := hb.len_eq
    refine wp_append_own w s x 131 ho base 2 i0 (.int .i64 0) 1 8 Try.underlying131 hi hz0 hz1 hz2 rfl (by decide) v n (l.flatMap ivC) hs hown ad m c (l2.flatMap ivC) hx (by rw [flatE_len ivC_len, hl]) (hb.cells ivC_len rfl) (flatE_one ivC_one l2) (by unfold maxLen; omega) (by omega) hbase ?_
    intro v' w' ho' hg _
    exact h v' w' (by rw [List.flatMap_append]; exact ho') ((Below.refl _ _).grown hg hbase (fun k hk => (hown.lt k hk).1))
set_option maxRecDepth 100000 in
theorem wpList_append_ivs {ops : Array Oper} {rest : List Oper} {o : Oper} {a : Act} {w : World} {Q : Exit → Act → World → Prop} (hgd : o.guard = none) (s x : Operand)
    (ho : o.op = .call { callee := .builtin .append, args := #[s, x], argTypes := #[131, 131] })
    (base n : Nat) (v : Value) (l : List Int) (hs : a.eval s = v) (hown : w.ownsRow base 2 1 v n (l.flatMap ivC))
    (ao : Option Addr) (m c : Nat) (l2 : List Int) (hx : a.eval x = .slice ao m c) (hb : Ivs w ao m c l2) (h63 : n + m ≤ 1000000) (hbase : base ≤ w.heap.size)
    (h : ∀ v' w', w'.ownsRow base 2 1 v' (n + m) ((l ++ l2).flatMap ivC) → Below base w w' → wpList Try.prog ops Q rest (a.put o.dst v') w') : wpList Try.prog ops Q (o :: rest) a w :=
  wpList_plain hgd fun K hK => wp_append_ivs s x ho base n v l hs hown ao m c l2 hx hb h63 hbase (fun v' w' h1 h2 => hK _ _ (h v' w' h1 h2))
set_option maxRecDepth 100000 in
theorem step_append_ivs {ops : Array Oper} {o : Oper} {a : Act} {w : World} {K : Act → World → Prop} {Q : Exit → Act → World → Prop} {E : Prop} (hgd : o.guard = none) (s x : Operand)
    (ho : o.op = .call { callee := .builtin .append, args := #[s, x], argTypes := #[131, 131] })
    (base n : Nat) (v : Value) (l : List Int) (hs : a.eval s = v) (hown : w.ownsRow base 2 1 v n (l.flatMap ivC))
    (ao : Option Addr) (m c : Nat) (l2 : List Int) (hx : a.eval x = .slice ao m c) (hb : Ivs w ao m c l2) (h63 : n + m ≤ 1000000) (hbase : base ≤ w.heap.size)
    (h : ∀ v' w', w'.ownsRow base 2 1 v' (n + m) ((l ++ l2).flatMap ivC) → Below base w w' → K (a.put o.dst v') w') : if Region.wanted o (yielded ops a.tmps) = true then Oper.wp Try.prog o a w K Q else E := by
  have hw : Region.wanted o (yielded ops a.tmps) = true := by simp [Region.wanted, hgd]
  rw [if_pos hw]
  exact wp_append_ivs s x ho base n v l hs hown ao m c l2 hx hb h63 hbase h
set_option maxRecDepth 100000 in
theorem one_iv (w : World) (x : Int) : Ivs (w.alloc (.cells #[.int .i64 x] 2)) (some ⟨w.heap.size, 0, none⟩) 1 1 [x] := by
  have hown : (w.alloc (.cells #[.int .i64 x] 2)).ownsRow w.heap.size 2 1 (.slice (some ⟨w.heap.size, 0, none⟩) 1 1) 1 ([x].flatMap ivC) := World.ownsRow_lit w #[.int .i64 x] 1 (Nat.le_refl _) (by unfold maxLen; omega) rfl
  obtain ⟨ao, cap, e, hE⟩ := Ls.of_owns ivC_len hown rfl
  cases e
  exact hE
set_option maxRecDepth 100000 in
theorem keptr_own {a w : World} {g : Nat} (h : Below a.heap.size a w) (i : Nat) (x : Value) : Kept (fun j => j = g) a (w.setCell ⟨g, i, none⟩ x) := by
  have h2 : Kept (fun j => j = g) a w := Kept.of_below h
  exact h2.setCell (g := g) (Or.inl (Eq.refl g)) _ _
set_option maxHeartbeats 4000000 in
set_option maxRecDepth 100000 in
theorem one_any (g : Nat) (v : VS) (u ov rt : Int) (k : Nat) (x : Int) (w : World) (h : Rr w g v u ov rt) (hk : k ≤ v.s.length) (hs : v.s.length ≤ 8) :
    Calls Try.prog 85 #[.pointer (some ⟨g, 0, none⟩), .int .i64 k, .int .i64 x] w fun e w' => e = .returned (.tuple #[]) ∧ Rr w' g ⟨v.c, off v k ++ [x], v.p⟩ u ov rt ∧ Kept (fun j => j = g) w w' := by
  have hgl := h.lt
  obtain ⟨c0, c1, c2, c3, kz, a, cap, hc, hrow, hiv, hne⟩ := h.ex
  have HROW := Bx.mk hrow
  have HC := Bx.mk hc
  have HIV := Bx.mk hiv
  have x4 := cell_of_row _ g 4 _ _ (0, 0) hrow
  have hcap := hiv.cap_le
  have hlec := hiv.le_cap
  unfold maxLen at hcap
  obtain ⟨vs, HVS⟩ : ∃ vs, Bx (v.s = vs) := ⟨_, ⟨rfl⟩⟩
  obtain ⟨n, HN⟩ : ∃ n, Bx (v.s.length = n) := ⟨_, ⟨rfl⟩⟩
  rw [HN.out] at x4 hk hs hlec
  rw [HVS.out] at HIV
  rw [show vs.length = n from by rw [← HVS.out]; exact HN.out] at HIV
  obtain ⟨m, HM⟩ : ∃ m, Bx (n - k = m) := ⟨_, ⟨rfl⟩⟩
  have hsub : (n : Int) - (k : Int) = (m : Int) := by rw [← HM.out]; omega
  have hmn : m ≤ n := by rw [← HM.out]; omega
  have hw : IntKind.i64.wrap (m : Int) = (m : Int) := IntWalk.i64_in _ (by omega)
  have HOFF : Bx (off v k = vs.take m) := ⟨by unfold off; rw [HN.out, HM.out, HVS.out]⟩
  have HNE := Bx.mk hne
  clear h hrow hc hiv hne
  cases a with
  | none =>
    have hc0 := HIV.out.nil rfl
    obtain rfl : cap = 0 := hc0
    obtain rfl : n = 0 := by omega
    obtain rfl : m = 0 := by omega
    obtain rfl : k = 0 := by omega
    have hw0 : IntKind.i64.wrap 0 = 0 := by decide
    have HTL : Bx ((vs.take 0).length = 0) := ⟨by rw [List.length_take, HIV.out.len_eq]; omega⟩
    go_enter Try.func85, Try.ntmps85
    go_wp2_with fail
    have hk : w.drew.cell? ⟨g, 4, none⟩ = some (.slice none 0 0) ∧ Below w.heap.size w w.drew := ⟨x4, (Below.refl _ _).drew⟩
    refine wp_region_held_drew (S := fun W => W.cell? ⟨g, 4, none⟩ = some (.slice none 0 0) ∧ Below w.heap.size w W) (by kernel_rfl) hk (fun _ => ?_)
    generalize w.drew = wk at hk ⊢
    refine wpAnyH_take (i := 0) (oi := { dst := some 7, op := Op.move (Operand.tmp 6), type := 131, pos := "ref.go:21", after := #[], guard := none }) (v := ?vron1n1) rfl (by kernel_rfl) (by kernel_rfl) (by kernel_rfl) (fun _ _ _ h => h) (Or.inl ⟨by rfl, ?yron1n1⟩) hk ?rron1n1
    case yron1n1 => (intro w hSw; (try dsimp only at hSw); go_simp; first | done | with_reducible rfl)
    simp only [Act.put, List.setIfInBounds_toArray, List.set_cons_zero, List.set_cons_succ]
    refine wpAnyH_take (i := 1) (oi := { dst := some 8, op := Op.move (Operand.tmp 0), type := 130, pos := "ref.go:21", after := #[], guard := none }) (v := ?vron1n2) rfl (by kernel_rfl) (by kernel_rfl) (by kernel_rfl) (fun _ _ _ h => h) (Or.inl ⟨by rfl, ?yron1n2⟩) hk ?rron1n2
    case yron1n2 => (intro w hSw; (try dsimp only at hSw); go_simp; first | done | with_reducible rfl)
    simp only [Act.put, List.setIfInBounds_toArray, List.set_cons_zero, List.set_cons_succ]
    refine wpAnyH_take (i := 2) (oi := { dst := some 9, op := Op.nilCheck (Operand.tmp 8), type := 0, pos := "ref.go:21", after := #[{ on := 1, ground := Ground.data }], guard := none }) (v := ?vron1n3) rfl (by kernel_rfl) (by kernel_rfl) (by kernel_rfl) (fun _ _ _ h => h) (Or.inl ⟨by rfl, ?yron1n3⟩) hk ?rron1n3
    case yron1n3 => (intro w hSw; (try dsimp only at hSw); go_simp; first | done | with_reducible rfl)
    simp only [Act.put, List.setIfInBounds_toArray, List.set_cons_zero, List.set_cons_succ]
    refine wpAnyH_take (i := 3) (oi := { dst := some 10, op := Op.fieldAddr 133 (Operand.tmp 9) 1, type := 0, pos := "ref.go:21", after := #[{ on := 2, ground := Ground.data }], guard := none }) (v := ?vron1n4) rfl (by kernel_rfl) (by kernel_rfl) (by kernel_rfl) (fun _ _ _ h => h) (Or.inl ⟨by rfl, ?yron1n4⟩) hk ?rron1n4
    case yron1n4 => (intro w hSw; (try dsimp only at hSw); go_simp; first | done | with_reducible rfl)
    simp only [Act.put, List.setIfInBounds_toArray, List.set_cons_zero, List.set_cons_succ]
    refine wpAnyH_take (i := 4) (oi := { dst := some 11, op := Op.load 131 (Operand.tmp 10), type := 131, pos := "ref.go:21", after := #[{ on := 3, ground := Ground.data }], guard := none }) (v := ?vron1n5) rfl (by kernel_rfl) (by kernel_rfl) (by kernel_rfl) (fun _ _ _ h => h) (Or.inl ⟨by rfl, ?yron1n5⟩) hk ?rron1n5
    case yron1n5 => (intro w hSw; have hcw := hSw.1; clear hSw; go_simp; first | done | with_reducible rfl)
    simp only [Act.put, List.setIfInBounds_toArray, List.set_cons_zero, List.set_cons_succ]
    refine wpAnyH_take (i := 5) (oi := { dst := some 12, op := Op.move (Operand.tmp 0), type := 130, pos := "ref.go:21", after := #[], guard := none }) (v := ?vron1n6) rfl (by kernel_rfl) (by kernel_rfl) (by kernel_rfl) (fun _ _ _ h => h) (Or.inl ⟨by rfl, ?yron1n6⟩) hk ?rron1n6
    case yron1n6 => (intro w hSw; (try dsimp only at hSw); go_simp; first | done | with_reducible rfl)
    simp only [Act.put, List.setIfInBounds_toArray, List.set_cons_zero, List.set_cons_succ]
    refine wpAnyH_take (i := 6) (oi := { dst := some 13, op := Op.nilCheck (Operand.tmp 12), type := 0, pos := "ref.go:21", after := #[{ on := 5, ground := Ground.data }], guard := none }) (v := ?vron1n7) rfl (by kernel_rfl) (by kernel_rfl) (by kernel_rfl) (fun _ _ _ h => h) (Or.inl ⟨by rfl, ?yron1n7⟩) hk ?rron1n7
    case yron1n7 => (intro w hSw; (try dsimp only at hSw); go_simp; first | done | with_reducible rfl)
    simp only [Act.put, List.setIfInBounds_toArray, List.set_cons_zero, List.set_cons_succ]
    refine wpAnyH_take (i := 7) (oi := { dst := some 14, op := Op.fieldAddr 133 (Operand.tmp 13) 1, type := 0, pos := "ref.go:21", after := #[{ on := 6, ground := Ground.data }], guard := none }) (v := ?vron1n8) rfl (by kernel_rfl) (by kernel_rfl) (by kernel_rfl) (fun _ _ _ h => h) (Or.inl ⟨by rfl, ?yron1n8⟩) hk ?rron1n8
    case yron1n8 => (intro w hSw; (try dsimp only at hSw); go_simp; first | done | with_reducible rfl)
    simp only [Act.put, List.setIfInBounds_toArray, List.set_cons_zero, List.set_cons_succ]
    refine wpAnyH_take (i := 8) (oi := { dst := some 15, op := Op.load 131 (Operand.tmp 14), type := 131, pos := "ref.go:21", after := #[{ on := 7, ground := Ground.data }], guard := none }) (v := ?vron1n9) rfl (by kernel_rfl) (by kernel_rfl) (by kernel_rfl) (fun _ _ _ h => h) (Or.inl ⟨by rfl, ?yron1n9⟩) hk ?rron1n9
    case yron1n9 => (intro w hSw; have hcw := hSw.1; clear hSw; go_simp; first | done | with_reducible rfl)
    simp only [Act.put, List.setIfInBounds_toArray, List.set_cons_zero, List.set_cons_succ]
    refine wpAnyH_take (i := 9) (oi := { dst := some 16, op := Op.call { callee := Callee.builtin Builtin.len, args := #[Operand.tmp 15], argTypes := #[131] }, type := 3, pos := "ref.go:21", after := #[{ on := 8, ground := Ground.data }], guard := none }) (v := ?vron1n10) rfl (by kernel_rfl) (by kernel_rfl) (by kernel_rfl) (fun _ _ _ h => h) (Or.inl ⟨by rfl, ?yron1n10⟩) hk ?rron1n10
    case yron1n10 => (intro w hSw; (try dsimp only at hSw); go_simp; first | done | with_reducible rfl)
    simp only [Act.put, List.setIfInBounds_toArray, List.set_cons_zero, List.set_cons_succ]
    refine wpAnyH_take (i := 10) (oi := { dst := some 17, op := Op.move (Operand.tmp 1), type := 3, pos := "ref.go:21", after := #[], guard := none }) (v := ?vron1n11) rfl (by kernel_rfl) (by kernel_rfl) (by kernel_rfl) (fun _ _ _ h => h) (Or.inl ⟨by rfl, ?yron1n11⟩) hk ?rron1n11
    case yron1n11 => (intro w hSw; (try dsimp only at hSw); go_simp; first | done | with_reducible rfl)
    simp only [Act.put, List.setIfInBounds_toArray, List.set_cons_zero, List.set_cons_succ]
    refine wpAnyH_take (i := 11) (oi := { dst := some 18, op := Op.binOp BinOp.sub 3 (Operand.tmp 16) (Operand.tmp 17) 3, type := 3, pos := "ref.go:21", after := #[{ on := 9, ground := Ground.data }, { on := 10, ground := Ground.data }], guard := none }) (v := ?vron1n12) rfl (by kernel_rfl) (by kernel_rfl) (by kernel_rfl) (fun _ _ _ h => h) (Or.inl ⟨by rfl, ?yron1n12⟩) hk ?rron1n12
    case yron1n12 => (intro w hSw; (try dsimp only at hSw); go_simp; first | done | with_reducible rfl)
    simp only [Act.put, List.setIfInBounds_toArray, List.set_cons_zero, List.set_cons_succ]
    refine wpAnyH_take (i := 12) (oi := { dst := some 19, op := Op.slice 131 (Operand.tmp 11) none (some (Operand.tmp 18)) none, type := 131, pos := "ref.go:21", after := #[{ on := 4, ground := Ground.data }, { on := 11, ground := Ground.data }], guard := none }) (v := .slice none 0 0) rfl (by kernel_rfl) (by kernel_rfl) (by kernel_rfl) (fun _ _ _ h => h) (Or.inl ⟨by rfl, ?yron1n13⟩) hk ?rron1n13
    case yron1n13 => (intro w hSw; clear hSw; go_simp; first | done | with_reducible rfl)
    simp only [Act.put, List.setIfInBounds_toArray, List.set_cons_zero, List.set_cons_succ]
    refine wpAnyH_ready (rs := [13]) (by decide +kernel) (by simp) ?_
    refine AllReadyH.cons (o := { dst := some 20, op := Op.call { callee := Callee.builtin Builtin.append, args := #[Operand.tmp 7, Operand.tmp 19], argTypes := #[131, 131] }, type := 131, pos := "ref.go:21", after := #[{ on := 0, ground := Ground.data }, { on := 12, ground := Ground.data }], guard := none }) rfl (fun K hK => ?_) AllReadyH.nil
    rw [if_pos (by rfl)]
    refine wp_append_ivs (.tmp 7) (.tmp 19) rfl w.heap.size 0 (.slice none 0 0) [] rfl (World.ownsRow_nil _ _ _ _) none 0 0 (vs.take 0) rfl ((HIV.out.take 0 hmn).below hk.2) (by omega) hk.2.size ?_
    intro v1 w1 ho1 hb1
    replace hk : w1.cell? ⟨g, 4, none⟩ = some (.slice none 0 0) ∧ Below w.heap.size w w1 := ⟨(hb1.cell hgl).trans hk.1, hk.2.trans hb1⟩
    clear hb1
    refine hK.out _ _ hk (fun _ => ?_)
    clear hK K
    try simp only [Act.put, List.setIfInBounds_toArray, List.set_cons_zero, List.set_cons_succ]
    refine wpAnyH_take (i := 14) (oi := { dst := some 6, op := Op.assign (Operand.tmp 20), type := 131, pos := "ref.go:21", after := #[{ on := 13, ground := Ground.data }, { on := 13, ground := Ground.chain }, { on := 0, ground := Ground.phase }, { on := 1, ground := Ground.phase }, { on := 2, ground := Ground.phase }, { on := 3, ground := Ground.phase }, { on := 4, ground := Ground.phase }, { on := 5, ground := Ground.phase }, { on := 6, ground := Ground.phase }, { on := 7, ground := Ground.phase }, { on := 8, ground := Ground.phase }, { on := 9, ground := Ground.phase }, { on := 10, ground := Ground.phase }, { on := 11, ground := Ground.phase }, { on := 12, ground := Ground.phase }, { on := 13, ground := Ground.phase }], guard := none }) (v := ?vron1n15) rfl (by kernel_rfl) (by kernel_rfl) (by kernel_rfl) (fun _ _ _ h => h) (Or.inl ⟨by rfl, ?yron1n15⟩) hk ?rron1n15
    case yron1n15 => (intro w hSw; (try dsimp only at hSw); go_simp; first | done | with_reducible rfl)
    simp only [Act.put, List.setIfInBounds_toArray, List.set_cons_zero, List.set_cons_succ]
    refine wpAnyH_done (by decide +kernel) ?_ _
    rw [Nat.zero_add, List.nil_append] at ho1
    have HO1 := Bx.mk ho1
    have HB1 : Bx (Below w.heap.size w w1) := ⟨hk.2⟩
    clear ho1 hk
    have HOA := Bx.mk (HO1.out.alloc (.cells #[.int .i64 x] 2))
    have HIA := Bx.mk (one_iv w1 x)
    have HBA : Bx (Below w.heap.size w (w1.alloc (.cells #[.int .i64 x] 2))) := ⟨bstep HB1.out ((Below.refl _ _).alloc (Nat.le_refl _) _)⟩
    have HSA := Bx.mk HBA.out.size
    go_wp2_with (at_builtin; refine wpList_append_ivs rfl (.tmp 22) (.tmp 24) rfl w.heap.size 0 _ (vs.take 0) rfl HOA.out _ 1 1 [x] rfl HIA.out (by omega) HSA.out ?_; intro v2 w2 ho2 hb2; obtain ⟨g2, cp2, rfl, hg2, _⟩ := owns_form ho2 (by omega); have hbl := HBA.out.trans hb2; have hr2 := (hbl.block g hgl).trans HROW.out; have y4 := cell_of_row _ g 4 _ _ (0, 0) hr2; have f4 := frozen_of_row _ g 4 _ _ hr2)
    obtain ⟨a3, c3', e3, hI3⟩ := Ls.of_owns ivC_len ho2 (by rw [List.length_append, HTL.out]; rfl)
    cases e3
    have hr3 := heap_setCell_same w2 g 4 _ _ (.slice (some ⟨g2, 0, none⟩) (0 + 1) cp2) hr2
    have hgn : g2 ≠ g := by omega
    have hI4 : Ivs (w2.setCell ⟨g, 4, none⟩ (.slice (some ⟨g2, 0, none⟩) (0 + 1) cp2)) (some ⟨g2, 0, none⟩) (0 + 1) cp2 (vs.take 0 ++ [x]) := hI3.keep (fun p e _ => by cases e; exact heap_setCell_other w2 ⟨g, 4, none⟩ g2 _ hgn) (by simp [World.setCell])
    have hkp : Kept (fun j => j = g) w (w2.setCell ⟨g, 4, none⟩ (.slice (some ⟨g2, 0, none⟩) (0 + 1) cp2)) := keptr_own hbl _ _
    have HFIN : Bx (Rr (w2.setCell ⟨g, 4, none⟩ (.slice (some ⟨g2, 0, none⟩) (0 + 1) cp2)) g ⟨v.c, off v 0 ++ [x], v.p⟩ u ov rt) := ⟨⟨c0, c1, c2, c3, kz, some ⟨g2, 0, none⟩, cp2, HC.out, by rw [HOFF.out, List.length_append, HTL.out]; exact hr3, by rw [HOFF.out, List.length_append, HTL.out]; exact hI4, fun p e => by cases e; exact hgn⟩⟩
    have HKP := Bx.mk hkp
    go_wp2_with fail
    go_end0
    exact ⟨rfl, HFIN.out, HKP.out⟩
  | some ad =>
    have hmc : (m : Int) ≤ (cap : Int) := by omega
    have hmc2 : m ≤ cap := by omega
    have HTL : Bx ((vs.take m).length = m) := ⟨by rw [List.length_take, HIV.out.len_eq]; omega⟩
    go_enter Try.func85, Try.ntmps85
    go_wp2_with fail
    have hk : w.drew.cell? ⟨g, 4, none⟩ = some (.slice (some ad) n cap) ∧ Below w.heap.size w w.drew := ⟨x4, (Below.refl _ _).drew⟩
    refine wp_region_held_drew (S := fun W => W.cell? ⟨g, 4, none⟩ = some (.slice (some ad) n cap) ∧ Below w.heap.size w W) (by kernel_rfl) hk (fun _ => ?_)
    generalize w.drew = wk at hk ⊢
    refine wpAnyH_take (i := 0) (oi := { dst := some 7, op := Op.move (Operand.tmp 6), type := 131, pos := "ref.go:21", after := #[], guard := none }) (v := ?vron1s1) rfl (by kernel_rfl) (by kernel_rfl) (by kernel_rfl) (fun _ _ _ h => h) (Or.inl ⟨by rfl, ?yron1s1⟩) hk ?rron1s1
    case yron1s1 => (intro w hSw; (try dsimp only at hSw); go_simp; first | done | with_reducible rfl)
    simp only [Act.put, List.setIfInBounds_toArray, List.set_cons_zero, List.set_cons_succ]
    refine wpAnyH_take (i := 1) (oi := { dst := some 8, op := Op.move (Operand.tmp 0), type := 130, pos := "ref.go:21", after := #[], guard := none }) (v := ?vron1s2) rfl (by kernel_rfl) (by kernel_rfl) (by kernel_rfl) (fun _ _ _ h => h) (Or.inl ⟨by rfl, ?yron1s2⟩) hk ?rron1s2
    case yron1s2 => (intro w hSw; (try dsimp only at hSw); go_simp; first | done | with_reducible rfl)
    simp only [Act.put, List.setIfInBounds_toArray, List.set_cons_zero, List.set_cons_succ]
    refine wpAnyH_take (i := 2) (oi := { dst := some 9, op := Op.nilCheck (Operand.tmp 8), type := 0, pos := "ref.go:21", after := #[{ on := 1, ground := Ground.data }], guard := none }) (v := ?vron1s3) rfl (by kernel_rfl) (by kernel_rfl) (by kernel_rfl) (fun _ _ _ h => h) (Or.inl ⟨by rfl, ?yron1s3⟩) hk ?rron1s3
    case yron1s3 => (intro w hSw; (try dsimp only at hSw); go_simp; first | done | with_reducible rfl)
    simp only [Act.put, List.setIfInBounds_toArray, List.set_cons_zero, List.set_cons_succ]
    refine wpAnyH_take (i := 3) (oi := { dst := some 10, op := Op.fieldAddr 133 (Operand.tmp 9) 1, type := 0, pos := "ref.go:21", after := #[{ on := 2, ground := Ground.data }], guard := none }) (v := ?vron1s4) rfl (by kernel_rfl) (by kernel_rfl) (by kernel_rfl) (fun _ _ _ h => h) (Or.inl ⟨by rfl, ?yron1s4⟩) hk ?rron1s4
    case yron1s4 => (intro w hSw; (try dsimp only at hSw); go_simp; first | done | with_reducible rfl)
    simp only [Act.put, List.setIfInBounds_toArray, List.set_cons_zero, List.set_cons_succ]
    refine wpAnyH_take (i := 4) (oi := { dst := some 11, op := Op.load 131 (Operand.tmp 10), type := 131, pos := "ref.go:21", after := #[{ on := 3, ground := Ground.data }], guard := none }) (v := ?vron1s5) rfl (by kernel_rfl) (by kernel_rfl) (by kernel_rfl) (fun _ _ _ h => h) (Or.inl ⟨by rfl, ?yron1s5⟩) hk ?rron1s5
    case yron1s5 => (intro w hSw; have hcw := hSw.1; clear hSw; go_simp; first | done | with_reducible rfl)
    simp only [Act.put, List.setIfInBounds_toArray, List.set_cons_zero, List.set_cons_succ]
    refine wpAnyH_take (i := 5) (oi := { dst := some 12, op := Op.move (Operand.tmp 0), type := 130, pos := "ref.go:21", after := #[], guard := none }) (v := ?vron1s6) rfl (by kernel_rfl) (by kernel_rfl) (by kernel_rfl) (fun _ _ _ h => h) (Or.inl ⟨by rfl, ?yron1s6⟩) hk ?rron1s6
    case yron1s6 => (intro w hSw; (try dsimp only at hSw); go_simp; first | done | with_reducible rfl)
    simp only [Act.put, List.setIfInBounds_toArray, List.set_cons_zero, List.set_cons_succ]
    refine wpAnyH_take (i := 6) (oi := { dst := some 13, op := Op.nilCheck (Operand.tmp 12), type := 0, pos := "ref.go:21", after := #[{ on := 5, ground := Ground.data }], guard := none }) (v := ?vron1s7) rfl (by kernel_rfl) (by kernel_rfl) (by kernel_rfl) (fun _ _ _ h => h) (Or.inl ⟨by rfl, ?yron1s7⟩) hk ?rron1s7
    case yron1s7 => (intro w hSw; (try dsimp only at hSw); go_simp; first | done | with_reducible rfl)
    simp only [Act.put, List.setIfInBounds_toArray, List.set_cons_zero, List.set_cons_succ]
    refine wpAnyH_take (i := 7) (oi := { dst := some 14, op := Op.fieldAddr 133 (Operand.tmp 13) 1, type := 0, pos := "ref.go:21", after := #[{ on := 6, ground := Ground.data }], guard := none }) (v := ?vron1s8) rfl (by kernel_rfl) (by kernel_rfl) (by kernel_rfl) (fun _ _ _ h => h) (Or.inl ⟨by rfl, ?yron1s8⟩) hk ?rron1s8
    case yron1s8 => (intro w hSw; (try dsimp only at hSw); go_simp; first | done | with_reducible rfl)
    simp only [Act.put, List.setIfInBounds_toArray, List.set_cons_zero, List.set_cons_succ]
    refine wpAnyH_take (i := 8) (oi := { dst := some 15, op := Op.load 131 (Operand.tmp 14), type := 131, pos := "ref.go:21", after := #[{ on := 7, ground := Ground.data }], guard := none }) (v := ?vron1s9) rfl (by kernel_rfl) (by kernel_rfl) (by kernel_rfl) (fun _ _ _ h => h) (Or.inl ⟨by rfl, ?yron1s9⟩) hk ?rron1s9
    case yron1s9 => (intro w hSw; have hcw := hSw.1; clear hSw; go_simp; first | done | with_reducible rfl)
    simp only [Act.put, List.setIfInBounds_toArray, List.set_cons_zero, List.set_cons_succ]
    refine wpAnyH_take (i := 9) (oi := { dst := some 16, op := Op.call { callee := Callee.builtin Builtin.len, args := #[Operand.tmp 15], argTypes := #[131] }, type := 3, pos := "ref.go:21", after := #[{ on := 8, ground := Ground.data }], guard := none }) (v := ?vron1s10) rfl (by kernel_rfl) (by kernel_rfl) (by kernel_rfl) (fun _ _ _ h => h) (Or.inl ⟨by rfl, ?yron1s10⟩) hk ?rron1s10
    case yron1s10 => (intro w hSw; (try dsimp only at hSw); go_simp; first | done | with_reducible rfl)
    simp only [Act.put, List.setIfInBounds_toArray, List.set_cons_zero, List.set_cons_succ]
    refine wpAnyH_take (i := 10) (oi := { dst := some 17, op := Op.move (Operand.tmp 1), type := 3, pos := "ref.go:21", after := #[], guard := none }) (v := ?vron1s11) rfl (by kernel_rfl) (by kernel_rfl) (by kernel_rfl) (fun _ _ _ h => h) (Or.inl ⟨by rfl, ?yron1s11⟩) hk ?rron1s11
    case yron1s11 => (intro w hSw; (try dsimp only at hSw); go_simp; first | done | with_reducible rfl)
    simp only [Act.put, List.setIfInBounds_toArray, List.set_cons_zero, List.set_cons_succ]
    refine wpAnyH_take (i := 11) (oi := { dst := some 18, op := Op.binOp BinOp.sub 3 (Operand.tmp 16) (Operand.tmp 17) 3, type := 3, pos := "ref.go:21", after := #[{ on := 9, ground := Ground.data }, { on := 10, ground := Ground.data }], guard := none }) (v := ?vron1s12) rfl (by kernel_rfl) (by kernel_rfl) (by kernel_rfl) (fun _ _ _ h => h) (Or.inl ⟨by rfl, ?yron1s12⟩) hk ?rron1s12
    case yron1s12 => (intro w hSw; (try dsimp only at hSw); go_simp; first | done | with_reducible rfl)
    simp only [Act.put, List.setIfInBounds_toArray, List.set_cons_zero, List.set_cons_succ]
    refine wpAnyH_take (i := 12) (oi := { dst := some 19, op := Op.slice 131 (Operand.tmp 11) none (some (Operand.tmp 18)) none, type := 131, pos := "ref.go:21", after := #[{ on := 4, ground := Ground.data }, { on := 11, ground := Ground.data }], guard := none }) (v := .slice (some ad) m cap) rfl (by kernel_rfl) (by kernel_rfl) (by kernel_rfl) (fun _ _ _ h => h) (Or.inl ⟨by rfl, ?yron1s13⟩) hk ?rron1s13
    case yron1s13 => (intro w hSw; clear hSw; go_simp; first | done | with_reducible rfl)
    simp only [Act.put, List.setIfInBounds_toArray, List.set_cons_zero, List.set_cons_succ]
    refine wpAnyH_ready (rs := [13]) (by decide +kernel) (by simp) ?_
    refine AllReadyH.cons (o := { dst := some 20, op := Op.call { callee := Callee.builtin Builtin.append, args := #[Operand.tmp 7, Operand.tmp 19], argTypes := #[131, 131] }, type := 131, pos := "ref.go:21", after := #[{ on := 0, ground := Ground.data }, { on := 12, ground := Ground.data }], guard := none }) rfl (fun K hK => ?_) AllReadyH.nil
    rw [if_pos (by rfl)]
    refine wp_append_ivs (.tmp 7) (.tmp 19) rfl w.heap.size 0 (.slice none 0 0) [] rfl (World.ownsRow_nil _ _ _ _) (some ad) m cap (vs.take m) rfl ((HIV.out.take m hmn).below hk.2) (by omega) hk.2.size ?_
    intro v1 w1 ho1 hb1
    replace hk : w1.cell? ⟨g, 4, none⟩ = some (.slice (some ad) n cap) ∧ Below w.heap.size w w1 := ⟨(hb1.cell hgl).trans hk.1, hk.2.trans hb1⟩
    clear hb1
    refine hK.out _ _ hk (fun _ => ?_)
    clear hK K
    try simp only [Act.put, List.setIfInBounds_toArray, List.set_cons_zero, List.set_cons_succ]
    refine wpAnyH_take (i := 14) (oi := { dst := some 6, op := Op.assign (Operand.tmp 20), type := 131, pos := "ref.go:21", after := #[{ on := 13, ground := Ground.data }, { on := 13, ground := Ground.chain }, { on := 0, ground := Ground.phase }, { on := 1, ground := Ground.phase }, { on := 2, ground := Ground.phase }, { on := 3, ground := Ground.phase }, { on := 4, ground := Ground.phase }, { on := 5, ground := Ground.phase }, { on := 6, ground := Ground.phase }, { on := 7, ground := Ground.phase }, { on := 8, ground := Ground.phase }, { on := 9, ground := Ground.phase }, { on := 10, ground := Ground.phase }, { on := 11, ground := Ground.phase }, { on := 12, ground := Ground.phase }, { on := 13, ground := Ground.phase }], guard := none }) (v := ?vron1s15) rfl (by kernel_rfl) (by kernel_rfl) (by kernel_rfl) (fun _ _ _ h => h) (Or.inl ⟨by rfl, ?yron1s15⟩) hk ?rron1s15
    case yron1s15 => (intro w hSw; (try dsimp only at hSw); go_simp; first | done | with_reducible rfl)
    simp only [Act.put, List.setIfInBounds_toArray, List.set_cons_zero, List.set_cons_succ]
    refine wpAnyH_done (by decide +kernel) ?_ _
    rw [Nat.zero_add, List.nil_append] at ho1
    have HO1 := Bx.mk ho1
    have HB1 : Bx (Below w.heap.size w w1) := ⟨hk.2⟩
    clear ho1 hk
    have HOA := Bx.mk (HO1.out.alloc (.cells #[.int .i64 x] 2))
    have HIA := Bx.mk (one_iv w1 x)
    have HBA : Bx (Below w.heap.size w (w1.alloc (.cells #[.int .i64 x] 2))) := ⟨bstep HB1.out ((Below.refl _ _).alloc (Nat.le_refl _) _)⟩
    have HSA := Bx.mk HBA.out.size
    go_wp2_with (at_builtin; refine wpList_append_ivs rfl (.tmp 22) (.tmp 24) rfl w.heap.size m _ (vs.take m) rfl HOA.out _ 1 1 [x] rfl HIA.out (by omega) HSA.out ?_; intro v2 w2 ho2 hb2; obtain ⟨g2, cp2, rfl, hg2, _⟩ := owns_form ho2 (by omega); have hbl := HBA.out.trans hb2; have hr2 := (hbl.block g hgl).trans HROW.out; have y4 := cell_of_row _ g 4 _ _ (0, 0) hr2; have f4 := frozen_of_row _ g 4 _ _ hr2)
    obtain ⟨a3, c3', e3, hI3⟩ := Ls.of_owns ivC_len ho2 (by rw [List.length_append, HTL.out]; rfl)
    cases e3
    have hr3 := heap_setCell_same w2 g 4 _ _ (.slice (some ⟨g2, 0, none⟩) (m + 1) cp2) hr2
    have hgn : g2 ≠ g := by omega
    have hI4 : Ivs (w2.setCell ⟨g, 4, none⟩ (.slice (some ⟨g2, 0, none⟩) (m + 1) cp2)) (some ⟨g2, 0, none⟩) (m + 1) cp2 (vs.take m ++ [x]) := hI3.keep (fun p e _ => by cases e; exact heap_setCell_other w2 ⟨g, 4, none⟩ g2 _ hgn) (by simp [World.setCell])
    have hkp : Kept (fun j => j = g) w (w2.setCell ⟨g, 4, none⟩ (.slice (some ⟨g2, 0, none⟩) (m + 1) cp2)) := keptr_own hbl _ _
    have HFIN : Bx (Rr (w2.setCell ⟨g, 4, none⟩ (.slice (some ⟨g2, 0, none⟩) (m + 1) cp2)) g ⟨v.c, off v k ++ [x], v.p⟩ u ov rt) := ⟨⟨c0, c1, c2, c3, kz, some ⟨g2, 0, none⟩, cp2, HC.out, by rw [HOFF.out, List.length_append, HTL.out]; exact hr3, by rw [HOFF.out, List.length_append, HTL.out]; exact hI4, fun p e => by cases e; exact hgn⟩⟩
    have HKP := Bx.mk hkp
    go_wp2_with fail
    go_end0
    exact ⟨rfl, HFIN.out, HKP.out⟩
end Go.Proofs.Ytbjeeefkbmdmfaa
