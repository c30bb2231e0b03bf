/- The document's own search: goes. -/
import Derived.Test.YtbjeeefkbmdmfaaLnn
import Derived.Test.YtbjeeefkbmdmfaaRVStep
import Derived.Laws.AppendOwnNone
namespace Go.Proofs.Ytbjeeefkbmdmfaa
open Go.RowKit
set_option linter.unusedVariables false

set_option maxRecDepth 100000 in
theorem Try.infoPl : (Try.prog.info? 88).map (fun i => (i.zero, i.size, i.bytes)) = some (some (.agg #[.slice none 0 0, .int .i64 0, .int .i64 0, .int .i64 0, .int .i64 0]), 5, 56) := by kernel_rfl
set_option maxRecDepth 100000 in
theorem Try.infoI18 : (Try.prog.info? 3).map (fun i => (i.zero, i.size, i.bytes)) = some (some (.int .i64 0), 1, 8) := by kernel_rfl
set_option maxRecDepth 100000 in
theorem Try.infoB18 : (Try.prog.info? 4).map (fun i => (i.zero, i.size, i.bytes)) = some (some (.bool false), 1, 1) := by kernel_rfl
/-- what goes leans on -/
structure GK (l : List Ic) (fu bu : Int) (ops : List Opr) (n : Nat) : Prop where
  code : (thr l).2.2 = 0
  lk : IcsK l
  ok : OrsK ops
  fu : V64 fu
  bu : 0 ≤ bu ∧ bu ≤ 1073741824
  n64 : n ≤ 64
  len : ops.length = n
set_option maxHeartbeats 8000000 in
set_option maxRecDepth 100000 in
theorem goes18_any (N g : Nat) (aL : Option Addr) (nL cL : Nat) (fu bu : Int) (aO : Option Addr) (n cO : Nat) (l : List Ic) (ops : List Opr) (hK : GK l fu bu ops n) (hLB : LoB N aL nL aO n) (mm : Nat) :
    ∀ (a : Option Addr) (c : Nat) (I : List Bool) (s0 s1 s2 s3 : Int) (aR : Option Addr) (cR : Nat) (o : List Nat) (vW : Value) (Ws : List Pl) (t : Nat) (w : World), (srO l fu ops).rank ⟨I, [s0, s1, s2, s3]⟩ ≤ mm → o.length + (srO l fu ops).rank ⟨I, [s0, s1, s2, s3]⟩ ≤ n →
    Se N w g aL nL cL fu bu aO n cO vW (.slice none 0 0) Ws t → Ics w aL nL cL l → Ors w aO n cO ops → w.ownsRow N 4 1 (.slice a n c) n (I.flatMap bvC) → I.length = n → (V64 s0 ∧ V64 s1 ∧ V64 s2 ∧ V64 s3) → w.ownsRow N 3 1 (.slice aR o.length cR) o.length ((orI o).flatMap ivC) → Ws.length ≤ t → t ≤ bu.toNat →
    Calls Try.prog 43 #[.pointer (some ⟨g, 0, none⟩), .agg #[.slice a n c, .int .i64 s0, .int .i64 s1, .int .i64 s2, .int .i64 s3], .slice aR o.length cR] w (GoP N g aL nL cL fu bu aO n cO vW w (gs (srO l fu ops) bu.toNat ⟨I, [s0, s1, s2, s3]⟩ o (Ws.map Pl.p) t)) := by
  induction mm using Nat.strongRecOn with
  | ind mm ih =>
  intro a c I s0 s1 s2 s3 aR cR o vW Ws t w hrk hon hSe hIc hOo hIn hIL hV hOd hWt htb
  have IH := Bx.mk ih
  have HK := Bx.mk hK
  have HLB := Bx.mk hLB
  have HWT : Bx (Ws.length ≤ t ∧ t ≤ 1073741824 ∧ t ≤ bu.toNat) := ⟨by have := hK.bu; omega⟩
  have HIL := Bx.mk hIL
  have HV := Bx.mk hV
  have HRK := Bx.mk hrk
  have HON := Bx.mk hon
  have HN64 := Bx.mk hK.n64
  obtain ⟨R, HR⟩ : ∃ R, Bx (gs (srO l fu ops) bu.toNat ⟨I, [s0, s1, s2, s3]⟩ o (Ws.map Pl.p) t = R) := ⟨_, ⟨rfl⟩⟩
  have HEQ : Bx (R = if (srO l fu ops).full ⟨I, [s0, s1, s2, s3]⟩ = true then ⟨1, o, Ws.map Pl.p ++ [⟨I, [s0, s1, s2, s3]⟩], t⟩ else lp (srO l fu ops) bu.toNat (gs (srO l fu ops) bu.toNat) ⟨I, [s0, s1, s2, s3]⟩ o (List.range (srO l fu ops).n) (Ws.map Pl.p ++ [⟨I, [s0, s1, s2, s3]⟩]) t) := ⟨by rw [← HR.out]; exact gs_eq srO_ok _ _ _ _⟩
  rw [HR.out]
  obtain ⟨gp, HGP⟩ : ∃ gp, Bx (gp = w.heap.size) := ⟨_, ⟨rfl⟩⟩
  have HG0 : Bx (GI N w g gp aL nL cL fu bu aO n cO vW l ops a c I s0 s1 s2 s3 aR cR o (w.alloc (.cells #[.slice a n c, .int .i64 s0, .int .i64 s1, .int .i64 s2, .int .i64 s3] 88)) vW Ws t) := ⟨by
    have hb : Below w.heap.size w (w.alloc (.cells #[.slice a n c, .int .i64 s0, .int .i64 s1, .int .i64 s2, .int .i64 s3] 88)) := (Below.refl _ _).alloc (Nat.le_refl _) _
    have hgl := hSe.sx.lt
    exact ⟨hSe.below hb, Kept.of_below hb, .inl rfl, by rw [HGP.out]; exact heap_alloc_new _ _, by rw [HGP.out]; omega, by rw [HGP.out]; intro e; have := (hSe.own.lt _ e).2; omega, owns_below hIn hb, owns_below hOd hb, hIc.below hb, hOo.below hb, by omega⟩⟩
  clear ih hK hLB hrk hon hSe hIc hOo hIn hIL hV hOd hWt htb HR
  go_enter Try.func43, Try.ntmps43
  go_upto_region 1 with fail
  rw [← HGP.out]
  generalize w.alloc (.cells #[.slice a n c, .int .i64 s0, .int .i64 s1, .int .i64 s2, .int .i64 s3] 88) = w0 at HG0 ⊢
  go_cut [6] from 15 to 24 (fun s6 wx => ∃ vY, s6 = .int .i64 0 ∧ Bx (GI N w g gp aL nL cL fu bu aO n cO vW l ops a c I s0 s1 s2 s3 aR cR o wx vY (Ws ++ [⟨a, c, ⟨I, [s0, s1, s2, s3]⟩⟩]) t))
  case first =>
    have hgi := HG0.out.drew
    have hk := hgi.pr
    clear HG0 HEQ IH
    refine wp_region_held_drew (S := fun W => W.heap[gp]? = some (.cells #[.slice a n c, .int .i64 s0, .int .i64 s1, .int .i64 s2, .int .i64 s3] 88 (0, 0))) (by kernel_rfl) hk (fun _ => ?_)
    generalize w0.drew = wk at hk hgi ⊢
    have c4 := hgi.se.cell.2.2.2.2.1
    refine wpAnyH_take (i := 0) (oi := { dst := some 15, op := Op.move (Operand.tmp 0), type := 81, pos := "ref.go:93", after := #[], guard := none }) (v := ?vrlg11) rfl (by kernel_rfl) (by kernel_rfl) (by kernel_rfl) (fun _ _ _ h => h) (Or.inl ⟨by rfl, ?yrlg11⟩) hk ?rrlg11
    case yrlg11 => (intro w hSw; (try dsimp only at hSw); go_simp; first | done | with_reducible rfl)
    simp only [Act.put, List.setIfInBounds_toArray, List.set_cons_zero, List.set_cons_succ]
    refine wpAnyH_take (i := 1) (oi := { dst := some 16, op := Op.move (Operand.tmp 0), type := 81, pos := "ref.go:93", after := #[], guard := none }) (v := ?vrlg12) rfl (by kernel_rfl) (by kernel_rfl) (by kernel_rfl) (fun _ _ _ h => h) (Or.inl ⟨by rfl, ?yrlg12⟩) hk ?rrlg12
    case yrlg12 => (intro w hSw; (try dsimp only at hSw); go_simp; first | done | with_reducible rfl)
    simp only [Act.put, List.setIfInBounds_toArray, List.set_cons_zero, List.set_cons_succ]
    refine wpAnyH_take (i := 2) (oi := { dst := some 17, op := Op.nilCheck (Operand.tmp 16), type := 0, pos := "ref.go:93", after := #[{ on := 1, ground := Ground.data }], guard := none }) (v := ?vrlg13) rfl (by kernel_rfl) (by kernel_rfl) (by kernel_rfl) (fun _ _ _ h => h) (Or.inl ⟨by rfl, ?yrlg13⟩) hk ?rrlg13
    case yrlg13 => (intro w hSw; (try dsimp only at hSw); go_simp; first | done | with_reducible rfl)
    simp only [Act.put, List.setIfInBounds_toArray, List.set_cons_zero, List.set_cons_succ]
    refine wpAnyH_take (i := 3) (oi := { dst := some 18, op := Op.fieldAddr 84 (Operand.tmp 17) 4, type := 0, pos := "ref.go:93", after := #[{ on := 2, ground := Ground.data }], guard := none }) (v := ?vrlg14) rfl (by kernel_rfl) (by kernel_rfl) (by kernel_rfl) (fun _ _ _ h => h) (Or.inl ⟨by rfl, ?yrlg14⟩) hk ?rrlg14
    case yrlg14 => (intro w hSw; (try dsimp only at hSw); go_simp; first | done | with_reducible rfl)
    simp only [Act.put, List.setIfInBounds_toArray, List.set_cons_zero, List.set_cons_succ]
    refine wpAnyH_take (i := 5) (oi := { dst := some 20, op := Op.load 88 (Operand.tmp 4), type := 88, pos := "ref.go:93", after := #[], guard := none }) (v := .agg #[.slice a n c, .int .i64 s0, .int .i64 s1, .int .i64 s2, .int .i64 s3]) rfl (by kernel_rfl) (by kernel_rfl) (by kernel_rfl) (fun _ _ _ h => h) (Or.inl ⟨by rfl, ?yrlg15⟩) hk ?rrlg15
    case yrlg15 => (intro w hSw; have q0 := cell_of_row _ gp 0 _ _ (0, 0) hSw; have q1 := cell_of_row _ gp 1 _ _ (0, 0) hSw; have q2 := cell_of_row _ gp 2 _ _ (0, 0) hSw; have q3 := cell_of_row _ gp 3 _ _ (0, 0) hSw; have q4 := cell_of_row _ gp 4 _ _ (0, 0) hSw; clear hSw; go_simp; first | done | with_reducible rfl)
    simp only [Act.put, List.setIfInBounds_toArray, List.set_cons_zero, List.set_cons_succ]
    refine wpAnyH_ready (rs := [4, 6]) (by decide +kernel) (by simp) ?_
    refine (AllReadyH.cons (o := { dst := some 19, op := Op.load 82 (Operand.tmp 18), type := 82, pos := "ref.go:93", after := #[{ on := 3, ground := Ground.data }], guard := none }) rfl (fun K hK => ?_) (AllReadyH.cons (o := { dst := some 21, op := Op.buildSlice 82 1 #[(0, Operand.tmp 20)], type := 82, pos := "ref.go:93", after := #[{ on := 5, ground := Ground.data }], guard := none }) rfl (fun K hK => ?_) AllReadyH.nil))
    · go_simp
      refine hK.out _ _ hk (fun _ => ?_)
      clear hK K
      try simp only [Act.put, List.setIfInBounds_toArray, List.set_cons_zero, List.set_cons_succ]
      refine wpAnyH_ready (rs := [6]) (by decide +kernel) (by simp) ?_
      refine AllReadyH.cons (o := { dst := some 21, op := Op.buildSlice 82 1 #[(0, Operand.tmp 20)], type := 82, pos := "ref.go:93", after := #[{ on := 5, ground := Ground.data }], guard := none }) rfl (fun K hK => ?_) AllReadyH.nil
      go_simp
      have hnw := World.news_of_block (heap_alloc_new wk (.cells #[.slice a n c, .int .i64 s0, .int .i64 s1, .int .i64 s2, .int .i64 s3] 88))
      have hbA : Below wk.heap.size wk (wk.alloc (.cells #[.slice a n c, .int .i64 s0, .int .i64 s1, .int .i64 s2, .int .i64 s3] 88)) := (Below.refl _ _).alloc (Nat.le_refl _) _
      replace hk := up_row _ _ hk hbA
      replace hgi := hgi.below hbA
      clear hbA c4
      generalize wk.heap.size = gn1 at hnw ⊢
      generalize wk.alloc (.cells #[.slice a n c, .int .i64 s0, .int .i64 s1, .int .i64 s2, .int .i64 s3] 88) = wk at hnw hk hgi ⊢
      have c4 := hgi.se.cell.2.2.2.2.1
      refine hK.out _ _ hk (fun _ => ?_)
      clear hK K
      try simp only [Act.put, List.setIfInBounds_toArray, List.set_cons_zero, List.set_cons_succ]
      refine wpAnyH_ready (rs := [7]) (by decide +kernel) (by simp) ?_
      refine AllReadyH.cons (o := { dst := some 22, op := Op.call { callee := Callee.builtin Builtin.append, args := #[Operand.tmp 19, Operand.tmp 21], argTypes := #[82, 82] }, type := 82, pos := "ref.go:93", after := #[{ on := 4, ground := Ground.data }, { on := 6, ground := Ground.data }], guard := none }) rfl (fun K hK => ?_) AllReadyH.nil
      rw [if_pos (by rfl)]
      obtain ⟨i0, hi, hz0, hz1, hz2⟩ := info_parts Try.infoPl
      refine wp_append_at (.tmp 19) (.tmp 21) 82 rfl N 88 i0 (.agg #[.slice none 0 0, .int .i64 0, .int .i64 0, .int .i64 0, .int .i64 0]) 5 56 Try.underlying82 hi hz0 hz1 hz2 rfl (by decide) vW Ws.length (Ws.flatMap (plC n)) rfl hgi.se.own ⟨gn1, 0, none⟩ 1 1 (plC n ⟨a, c, ⟨I, [s0, s1, s2, s3]⟩⟩) rfl rfl hnw (plC_one n _) (by decide) (by have := HWT.out; unfold maxLen; omega) (by have := HWT.out; omega) hgi.se.size ?_
      intro vY wk2 hoY hgY haY
      obtain ⟨aY, cY, rfl⟩ := own_sl hoY
      obtain ⟨hrow, hgi2⟩ := hgi.push HLB.out HWT.out.1 HIL.out hoY hgY haY
      have c4 := cell_of_row _ g 4 _ _ (0, 0) hrow
      have f4 := frozen_of_row _ g 4 _ _ hrow
      replace hk : wk2.heap[gp]? = some (.cells #[.slice a n c, .int .i64 s0, .int .i64 s1, .int .i64 s2, .int .i64 s3] 88 (0, 0)) := (hgY.block gp (Array.getElem?_eq_some_iff.1 hk).1 (fun e => hgi.ng e.symm)).trans hk
      clear hgi hoY hgY haY hnw hi hz0 hz1 hz2
      simp only [Act.put, List.setIfInBounds_toArray, List.set_cons_zero, List.set_cons_succ]
      refine hK.out _ _ hk (fun _ => ?_)
      clear hK K
      try simp only [Act.put, List.setIfInBounds_toArray, List.set_cons_zero, List.set_cons_succ]
      refine wpAnyH_take (i := 8) (oi := { dst := some 23, op := Op.nilCheck (Operand.tmp 15), type := 0, pos := "ref.go:93", after := #[{ on := 0, ground := Ground.data }, { on := 0, ground := Ground.phase }, { on := 1, ground := Ground.phase }, { on := 2, ground := Ground.phase }, { on := 3, ground := Ground.phase }, { on := 4, ground := Ground.phase }, { on := 5, ground := Ground.phase }, { on := 6, ground := Ground.phase }, { on := 7, ground := Ground.phase }], guard := none }) (v := ?vrlg17) rfl (by kernel_rfl) (by kernel_rfl) (by kernel_rfl) (fun _ _ _ h => h) (Or.inl ⟨by rfl, ?yrlg17⟩) hk ?rrlg17
      case yrlg17 => (intro w hSw; (try dsimp only at hSw); go_simp; first | done | with_reducible rfl)
      simp only [Act.put, List.setIfInBounds_toArray, List.set_cons_zero, List.set_cons_succ]
      refine wpAnyH_take (i := 9) (oi := { dst := some 24, op := Op.fieldAddr 84 (Operand.tmp 23) 4, type := 0, pos := "ref.go:93", after := #[{ on := 8, ground := Ground.data }, { on := 0, ground := Ground.phase }, { on := 1, ground := Ground.phase }, { on := 2, ground := Ground.phase }, { on := 3, ground := Ground.phase }, { on := 4, ground := Ground.phase }, { on := 5, ground := Ground.phase }, { on := 6, ground := Ground.phase }, { on := 7, ground := Ground.phase }], guard := none }) (v := ?vrlg18) rfl (by kernel_rfl) (by kernel_rfl) (by kernel_rfl) (fun _ _ _ h => h) (Or.inl ⟨by rfl, ?yrlg18⟩) hk ?rrlg18
      case yrlg18 => (intro w hSw; (try dsimp only at hSw); go_simp; first | done | with_reducible rfl)
      simp only [Act.put, List.setIfInBounds_toArray, List.set_cons_zero, List.set_cons_succ]
      refine wpAnyH_ready (rs := [10]) (by decide +kernel) (by simp) ?_
      refine AllReadyH.cons (o := { dst := none, op := Op.store 82 (Operand.tmp 24) (Operand.tmp 22), type := 0, pos := "ref.go:93", after := #[{ on := 9, ground := Ground.data }, { on := 7, ground := Ground.data }, { on := 7, ground := Ground.chain }, { on := 0, ground := Ground.phase }, { on := 1, ground := Ground.phase }, { on := 2, ground := Ground.phase }, { on := 3, ground := Ground.phase }, { on := 4, ground := Ground.phase }, { on := 5, ground := Ground.phase }, { on := 6, ground := Ground.phase }, { on := 7, ground := Ground.phase }], guard := none }) rfl (fun K hK => ?_) AllReadyH.nil
      go_simp
      replace hk := hgi2.pr
      clear c4 f4 hrow
      generalize wk2.setCell ⟨g, 4, none⟩ (.slice aY (Ws.length + 1) cY) = wk3 at hk hgi2 ⊢
      refine hK.out _ _ hk (fun _ => ?_)
      clear hK K
      try simp only [Act.put, List.setIfInBounds_toArray, List.set_cons_zero, List.set_cons_succ]
      refine wpAnyH_done (by decide +kernel) ?_ _
      go_wp2_with fail
      go_meet
      case rel => exact ⟨_, rfl, ⟨hgi2⟩⟩
    · go_simp
      have hnw := World.news_of_block (heap_alloc_new wk (.cells #[.slice a n c, .int .i64 s0, .int .i64 s1, .int .i64 s2, .int .i64 s3] 88))
      have hbA : Below wk.heap.size wk (wk.alloc (.cells #[.slice a n c, .int .i64 s0, .int .i64 s1, .int .i64 s2, .int .i64 s3] 88)) := (Below.refl _ _).alloc (Nat.le_refl _) _
      replace hk := up_row _ _ hk hbA
      replace hgi := hgi.below hbA
      clear hbA c4
      generalize wk.heap.size = gn1 at hnw ⊢
      generalize wk.alloc (.cells #[.slice a n c, .int .i64 s0, .int .i64 s1, .int .i64 s2, .int .i64 s3] 88) = wk at hnw hk hgi ⊢
      have c4 := hgi.se.cell.2.2.2.2.1
      refine hK.out _ _ hk (fun _ => ?_)
      clear hK K
      try simp only [Act.put, List.setIfInBounds_toArray, List.set_cons_zero, List.set_cons_succ]
      refine wpAnyH_ready (rs := [4]) (by decide +kernel) (by simp) ?_
      refine AllReadyH.cons (o := { dst := some 19, op := Op.load 82 (Operand.tmp 18), type := 82, pos := "ref.go:93", after := #[{ on := 3, ground := Ground.data }], guard := none }) rfl (fun K hK => ?_) AllReadyH.nil
      go_simp
      refine hK.out _ _ hk (fun _ => ?_)
      clear hK K
      try simp only [Act.put, List.setIfInBounds_toArray, List.set_cons_zero, List.set_cons_succ]
      refine wpAnyH_ready (rs := [7]) (by decide +kernel) (by simp) ?_
      refine AllReadyH.cons (o := { dst := some 22, op := Op.call { callee := Callee.builtin Builtin.append, args := #[Operand.tmp 19, Operand.tmp 21], argTypes := #[82, 82] }, type := 82, pos := "ref.go:93", after := #[{ on := 4, ground := Ground.data }, { on := 6, ground := Ground.data }], guard := none }) rfl (fun K hK => ?_) AllReadyH.nil
      rw [if_pos (by rfl)]
      obtain ⟨i0, hi, hz0, hz1, hz2⟩ := info_parts Try.infoPl
      refine wp_append_at (.tmp 19) (.tmp 21) 82 rfl N 88 i0 (.agg #[.slice none 0 0, .int .i64 0, .int .i64 0, .int .i64 0, .int .i64 0]) 5 56 Try.underlying82 hi hz0 hz1 hz2 rfl (by decide) vW Ws.length (Ws.flatMap (plC n)) rfl hgi.se.own ⟨gn1, 0, none⟩ 1 1 (plC n ⟨a, c, ⟨I, [s0, s1, s2, s3]⟩⟩) rfl rfl hnw (plC_one n _) (by decide) (by have := HWT.out; unfold maxLen; omega) (by have := HWT.out; omega) hgi.se.size ?_
      intro vY wk2 hoY hgY haY
      obtain ⟨aY, cY, rfl⟩ := own_sl hoY
      obtain ⟨hrow, hgi2⟩ := hgi.push HLB.out HWT.out.1 HIL.out hoY hgY haY
      have c4 := cell_of_row _ g 4 _ _ (0, 0) hrow
      have f4 := frozen_of_row _ g 4 _ _ hrow
      replace hk : wk2.heap[gp]? = some (.cells #[.slice a n c, .int .i64 s0, .int .i64 s1, .int .i64 s2, .int .i64 s3] 88 (0, 0)) := (hgY.block gp (Array.getElem?_eq_some_iff.1 hk).1 (fun e => hgi.ng e.symm)).trans hk
      clear hgi hoY hgY haY hnw hi hz0 hz1 hz2
      simp only [Act.put, List.setIfInBounds_toArray, List.set_cons_zero, List.set_cons_succ]
      refine hK.out _ _ hk (fun _ => ?_)
      clear hK K
      try simp only [Act.put, List.setIfInBounds_toArray, List.set_cons_zero, List.set_cons_succ]
      refine wpAnyH_take (i := 8) (oi := { dst := some 23, op := Op.nilCheck (Operand.tmp 15), type := 0, pos := "ref.go:93", after := #[{ on := 0, ground := Ground.data }, { on := 0, ground := Ground.phase }, { on := 1, ground := Ground.phase }, { on := 2, ground := Ground.phase }, { on := 3, ground := Ground.phase }, { on := 4, ground := Ground.phase }, { on := 5, ground := Ground.phase }, { on := 6, ground := Ground.phase }, { on := 7, ground := Ground.phase }], guard := none }) (v := ?vrlg110) rfl (by kernel_rfl) (by kernel_rfl) (by kernel_rfl) (fun _ _ _ h => h) (Or.inl ⟨by rfl, ?yrlg110⟩) hk ?rrlg110
      case yrlg110 => (intro w hSw; (try dsimp only at hSw); go_simp; first | done | with_reducible rfl)
      simp only [Act.put, List.setIfInBounds_toArray, List.set_cons_zero, List.set_cons_succ]
      refine wpAnyH_take (i := 9) (oi := { dst := some 24, op := Op.fieldAddr 84 (Operand.tmp 23) 4, type := 0, pos := "ref.go:93", after := #[{ on := 8, ground := Ground.data }, { on := 0, ground := Ground.phase }, { on := 1, ground := Ground.phase }, { on := 2, ground := Ground.phase }, { on := 3, ground := Ground.phase }, { on := 4, ground := Ground.phase }, { on := 5, ground := Ground.phase }, { on := 6, ground := Ground.phase }, { on := 7, ground := Ground.phase }], guard := none }) (v := ?vrlg111) rfl (by kernel_rfl) (by kernel_rfl) (by kernel_rfl) (fun _ _ _ h => h) (Or.inl ⟨by rfl, ?yrlg111⟩) hk ?rrlg111
      case yrlg111 => (intro w hSw; (try dsimp only at hSw); go_simp; first | done | with_reducible rfl)
      simp only [Act.put, List.setIfInBounds_toArray, List.set_cons_zero, List.set_cons_succ]
      refine wpAnyH_ready (rs := [10]) (by decide +kernel) (by simp) ?_
      refine AllReadyH.cons (o := { dst := none, op := Op.store 82 (Operand.tmp 24) (Operand.tmp 22), type := 0, pos := "ref.go:93", after := #[{ on := 9, ground := Ground.data }, { on := 7, ground := Ground.data }, { on := 7, ground := Ground.chain }, { on := 0, ground := Ground.phase }, { on := 1, ground := Ground.phase }, { on := 2, ground := Ground.phase }, { on := 3, ground := Ground.phase }, { on := 4, ground := Ground.phase }, { on := 5, ground := Ground.phase }, { on := 6, ground := Ground.phase }, { on := 7, ground := Ground.phase }], guard := none }) rfl (fun K hK => ?_) AllReadyH.nil
      go_simp
      replace hk := hgi2.pr
      clear c4 f4 hrow
      generalize wk2.setCell ⟨g, 4, none⟩ (.slice aY (Ws.length + 1) cY) = wk3 at hk hgi2 ⊢
      refine hK.out _ _ hk (fun _ => ?_)
      clear hK K
      try simp only [Act.put, List.setIfInBounds_toArray, List.set_cons_zero, List.set_cons_succ]
      refine wpAnyH_done (by decide +kernel) ?_ _
      go_wp2_with fail
      go_meet
      case rel => exact ⟨_, rfl, ⟨hgi2⟩⟩
  case rest =>
    obtain ⟨vY, rfl, HG1⟩ := hcut
    obtain ⟨w1, hw1⟩ : ∃ w1, w1 = wc := ⟨_, rfl⟩
    subst hw1
    clear HG0
    obtain ⟨V1, HV1⟩ : ∃ V1, Bx (Ws ++ [⟨a, c, ⟨I, [s0, s1, s2, s3]⟩⟩] = V1) := ⟨_, ⟨rfl⟩⟩
    rw [HV1.out] at HG1
    have HMP : Bx (Ws.map Pl.p ++ [⟨I, [s0, s1, s2, s3]⟩] = V1.map Pl.p) := ⟨by rw [← HV1.out]; simp⟩
    rw [HMP.out] at HEQ
    have x0 := cell_of_row _ gp 0 _ _ (0, 0) HG1.out.pr
    have x1 := cell_of_row _ gp 1 _ _ (0, 0) HG1.out.pr
    have x2 := cell_of_row _ gp 2 _ _ (0, 0) HG1.out.pr
    have x3 := cell_of_row _ gp 3 _ _ (0, 0) HG1.out.pr
    have x4 := cell_of_row _ gp 4 _ _ (0, 0) HG1.out.pr
    have HBI := Bx.mk (HG1.out.bvs HIL.out)
    go_wp2_with fail
    refine (full18_any g aL nL cL fu bu aO n cO _ _ t a c I s0 s1 s2 s3 l ops _ HG1.out.se.sx HG1.out.oo HBI.out).mono ?_
    rintro e w2 ⟨rfl, hb2⟩
    have HG2 := Bx.mk (HG1.out.below hb2)
    clear x0 x1 x2 x3 x4 hb2 HG1 HBI HV1 HMP HWT
    cases hfull : (srO l fu ops).full ⟨I, [s0, s1, s2, s3]⟩ with
    | true =>
      have HRF : Bx (R = ⟨1, o, V1.map Pl.p, t⟩) := ⟨by rw [HEQ.out, if_pos hfull]⟩
      obtain ⟨i0, hi, hz0, hz1, hz2⟩ := info_parts Try.infoI18
      have hb0 : Below w2.heap.size w2 (w2.alloc (.cells #[] 3)) := (Below.refl _ _).alloc (Nat.le_refl _) _
      have HO0 : Bx ((w2.alloc (.cells #[] 3)).ownsRow w2.heap.size 3 1 (.slice (some ⟨w2.heap.size, 0, none⟩) 0 0) 0 []) := ⟨World.ownsRow_lit w2 #[] 0 (Nat.le_refl _) (by unfold maxLen; omega) rfl⟩
      have HG3 := Bx.mk (HG2.out.below hb0)
      have HSZ := Bx.mk hb0.size
      have HB0 := Bx.mk hb0
      have HNS := Bx.mk HG2.out.se.size
      have hol : o.length ≤ 64 := by have := HON.out; have := HN64.out; omega
      clear hfull hb0
      rcases own_none HG2.out.od with ⟨hn1, hn2, hn3⟩ | ⟨gR, hgR⟩
      · obtain rfl := hn1
        obtain rfl := hn3
        have HOE : Bx (o = []) := ⟨List.eq_nil_of_length_eq_zero hn2⟩
        rw [hn2]
        have c6 := HG3.out.se.cell.2.2.2.2.2.1
        have f6 := HG3.out.se.froz 6
        clear hn2
        go_wp2_with (at_builtin; refine wpList_append_own_none rfl _ _ 37 rfl w2.heap.size 3 i0 1 Try.underlying37 hi _ 0 [] rfl HO0.out rfl ?_)
        go_ret
        exact HG3.out.fits (by rw [HOE.out]; exact owns_base HO0.out HNS.out) HRF.out
      · obtain rfl := hgR
        have HFL : Bx (((orI o).flatMap ivC).length = o.length * 1) := ⟨by rw [flatE_len ivC_len, orI_len]⟩
        have HCE := Bx.mk (HG3.out.od.cells (g := gR) rfl)
        have HON1 := Bx.mk (flatE_one ivC_one (orI o))
        go_wp2_with (at_builtin; refine wpList_append_own _ rfl _ _ 37 rfl w2.heap.size 3 i0 (.int .i64 0) 1 8 Try.underlying37 hi hz0 hz1 hz2 rfl (by decide) _ 0 [] rfl HO0.out ⟨gR, 0, none⟩ o.length cR ((orI o).flatMap ivC) rfl HFL.out HCE.out HON1.out ?fa3 ?fa4 HSZ.out ?_)
        case fa3 => unfold maxLen; omega
        case fa4 => omega
        intro v1 w4 ho1 hg1 _
        obtain ⟨aY, cY, rfl⟩ := own_sl ho1
        have HG4 : Bx (GI N w g gp aL nL cL fu bu aO n cO vW l ops a c I s0 s1 s2 s3 (some ⟨gR, 0, none⟩) cR o w4 vY V1 t) := ⟨HG2.out.below (HB0.out.grown hg1 HSZ.out (by intro k hk; cases hk; exact Nat.le_refl _))⟩
        have HO1 := Bx.mk ho1
        have c6 := HG4.out.se.cell.2.2.2.2.2.1
        have f6 := HG4.out.se.froz 6
        clear ho1 hg1 hi hz0 hz1 hz2
        go_wp2_with fail
        go_ret
        exact HG4.out.fits (by have h1 := owns_base HO1.out HNS.out; simpa using h1) HRF.out
    | false =>
      rw [if_neg (by rw [hfull]; decide)] at HEQ
      have HSN : Bx ((srO l fu ops).n = n) := ⟨HK.out.len⟩
      have HLP0 : Bx (lp (srO l fu ops) bu.toNat (gs (srO l fu ops) bu.toNat) ⟨I, [s0, s1, s2, s3]⟩ o ((List.range (srO l fu ops).n).drop 0) (V1.map Pl.p) t = R) := ⟨HEQ.out.symm⟩
      clear hfull HEQ
      go_wp2_with fail
      go_loopw [7] (fun i wr => ∃ (k : Nat) (vX : Value) (V : List Pl) (u : Nat), k ≤ n ∧ i = .int .i64 k ∧ Bx (GI N w g gp aL nL cL fu bu aO n cO vW l ops a c I s0 s1 s2 s3 aR cR o wr vX V u) ∧ Bx (lp (srO l fu ops) bu.toNat (gs (srO l fu ops) bu.toNat) ⟨I, [s0, s1, s2, s3]⟩ o ((List.range (srO l fu ops).n).drop k) (V.map Pl.p) u = R)) (fun i _ => n - (intOf i).toNat)
      case atStart => exact ⟨0, _, _, _, Nat.zero_le _, rfl, HG2, HLP0⟩
      case round =>
        clear HG2 HLP0
        obtain ⟨k, vX, V, u, hkn, rfl, HG, HLP⟩ := hrel
        have z3 := HG.out.se.cell.2.2.2.1
        have hn64 := HN64.out
        by_cases hlt : k < n
        · have hkI : (k : Int) < (n : Int) := by omega
          obtain ⟨b2, o2, rfl, _, _⟩ := HG.out.oo.spot (by omega)
          have HKS : Bx (k < (srO l fu ops).n) := ⟨by rw [HSN.out]; exact hlt⟩
          have x0 := cell_of_row _ gp 0 _ _ (0, 0) HG.out.pr
          have x1 := cell_of_row _ gp 1 _ _ (0, 0) HG.out.pr
          have x2 := cell_of_row _ gp 2 _ _ (0, 0) HG.out.pr
          have x3 := cell_of_row _ gp 3 _ _ (0, 0) HG.out.pr
          have x4 := cell_of_row _ gp 4 _ _ (0, 0) HG.out.pr
          have HBI := Bx.mk (HG.out.bvs HIL.out)
          go_wp2_with fail
          refine (free18_any g aL nL cL fu bu _ n cO _ _ u a c I s0 s1 s2 s3 l ops k hlt _ HG.out.se.sx HG.out.oo HBI.out).mono ?_
          rintro e w3 ⟨rfl, hb3⟩
          have HG3 := Bx.mk (HG.out.below hb3)
          clear x0 x1 x2 x3 x4 z3 hb3 HG HBI
          cases hfree : (srO l fu ops).free ⟨I, [s0, s1, s2, s3]⟩ k with
          | false =>
            have HL2 := Bx.mk ((lp_skip HKS.out hfree).symm.trans HLP.out)
            clear hfree
            go_wp2_with fail
            go_roundw
            case rel => exact ⟨k + 1, vX, V, u, by omega, by go_num, HG3, HL2⟩
            case measure => simp [intOf]; omega
          | true =>
            have HFR := Bx.mk hfree
            have HVU := Bx.mk HG3.out.ln.1
            have hul : u ≤ 1073741824 := by have := HG3.out.ln.2; have := HK.out.bu; omega
            have c7 := HG3.out.se.cell.2.2.2.2.2.2
            have c2 := HG3.out.se.cell.2.2.1
            clear hfree
            by_cases hub : u = bu.toNat
            · have HRO := Bx.mk ((lp_out HKS.out HFR.out hub).symm.trans HLP.out)
              have hbq : ((u : Int) == bu) = true := by have := HK.out.bu; simp; omega
              obtain ⟨ui, hui⟩ : ∃ ui : Int, (u : Int) = ui := ⟨_, rfl⟩
              rw [hui] at c7 hbq
              have HGD := Bx.mk fun q => HG3.out.below (below_drewN (Below.refl _ _) q)
              clear hub hul hui
              go_wp2_with fail
              go_quiet (fail)
              go_wp2_with fail
              go_ret
              exact (HGD.out _).over HRO.out (by decide)
            · have HUB := Bx.mk hub
              have hbq : ((u : Int) == bu) = false := by have := HK.out.bu; simp; omega
              obtain ⟨X, HXE⟩ : ∃ X, Bx (ops.getD k op0 = X) := ⟨_, ⟨rfl⟩⟩
              have HKO : Bx (k < ops.length) := ⟨by rw [HK.out.len]; exact hlt⟩
              have HXK : Bx (OrK X) := ⟨by rw [← HXE.out]; exact HK.out.ok.get k HKO.out⟩
              obtain ⟨kd, t0, t1, t2, t3, rt, us, hst⟩ := stpV_form HK.out.code s0 s1 s2 s3 X.o X.a fu
              have HST : Bx (stC (stpV l [s0, s1, s2, s3] X.o X.a fu) = .agg #[.int .i64 kd, .int .i64 t0, .int .i64 t1, .int .i64 t2, .int .i64 t3, .int .i64 rt, .int .i64 us]) := ⟨by rw [hst]; rfl⟩
              have HSP := Bx.mk hst
              have HVT : Bx (V64 t0 ∧ V64 t1 ∧ V64 t2 ∧ V64 t3) := ⟨by
                have := stpV_cv HK.out.code HK.out.lk (S := [s0, s1, s2, s3]) rfl (in_four HV.out) HXK.out.o HXK.out.a fu
                rw [hst] at this
                exact four_in this⟩
              have HUT : Bx (u + 1 ≤ bu.toNat) := ⟨by have := HG3.out.ln.2; omega⟩
              clear hst hub
              obtain ⟨ui, hui⟩ : ∃ ui : Int, (u : Int) = ui := ⟨_, rfl⟩
              rw [hui] at c7 hbq
              clear hui
              go_wp2_with fail
              go_quiet (fail)
              have HG4 := Bx.mk (HG3.out.below (below_drewN (Below.refl _ _) nq))
              generalize w3.drewN nq = w4 at HG4 ⊢
              clear c7 c2 hbq HG3
              have c7 := HG4.out.se.cell.2.2.2.2.2.2
              have f7 := HG4.out.se.froz 7
              have HG5 := Bx.mk (HG4.out.set HLB.out HUT.out)
              go_upto_region 12 with fail
              generalize w4.setCell ⟨g, 7, none⟩ (.int .i64 ((u : Int) + 1)) = w5 at HG5 ⊢
              clear c7 f7 HG4
              have z3 := HG5.out.se.cell.2.2.2.1
              obtain ⟨y0, y1, y2, y3, y4, y5, y6⟩ := or_spot HG5.out.oo k hlt HXE.out
              obtain ⟨gv, HGV⟩ : ∃ gv, Bx (gv = w5.heap.size) := ⟨_, ⟨rfl⟩⟩
              have hba : Below w5.heap.size w5 (w5.alloc (.cells #[.int .i64 X.c, .int .i64 X.o, .int .i64 X.a, .bool X.d, .int .i64 X.r, .int .i64 X.f, .int .i64 X.t] 35)) := (Below.refl _ _).alloc (Nat.le_refl _) _
              have hra := heap_alloc_new w5 (.cells #[.int .i64 X.c, .int .i64 X.o, .int .i64 X.a, .bool X.d, .int .i64 X.r, .int .i64 X.f, .int .i64 X.t] 35)
              rw [← HGV.out] at hra
              have HRV := Bx.mk hra
              have HG6 := Bx.mk (HG5.out.below hba)
              clear hba hra
              go_upto_region 13 with fail
              rw [← HGV.out]
              generalize w5.alloc (.cells #[.int .i64 X.c, .int .i64 X.o, .int .i64 X.a, .bool X.d, .int .i64 X.r, .int .i64 X.f, .int .i64 X.t] 35) = w6 at HRV HG6 ⊢
              clear y0 y1 y2 y3 y4 y5 y6 z3 HG5 HGV
              obtain ⟨Qx, HQ0⟩ : ∃ Qx : World → Prop, Bx (Qx = fun W => GI N w g gp aL nL cL fu bu (some ⟨b2, o2, none⟩) n cO vW l ops a c I s0 s1 s2 s3 aR cR o W vX V (u + 1) ∧ W.heap[gv]? = some (.cells #[.int .i64 X.c, .int .i64 X.o, .int .i64 X.a, .bool X.d, .int .i64 X.r, .int .i64 X.f, .int .i64 X.t] 35 (0, 0))) := ⟨_, ⟨rfl⟩⟩
              have HQX : Bx (∀ W, Qx W → GI N w g gp aL nL cL fu bu (some ⟨b2, o2, none⟩) n cO vW l ops a c I s0 s1 s2 s3 aR cR o W vX V (u + 1) ∧ W.heap[gv]? = some (.cells #[.int .i64 X.c, .int .i64 X.o, .int .i64 X.a, .bool X.d, .int .i64 X.r, .int .i64 X.f, .int .i64 X.t] 35 (0, 0))) := ⟨fun W h => by rw [HQ0.out] at h; exact h⟩
              have HQP : Bx (∀ W z vs, Qx W → w6.heap.size ≤ z → Qx (W.setCells z 0 vs)) := ⟨fun W z vs h hz => by
                rw [HQ0.out] at h ⊢
                exact ⟨h.1.cells HLB.out HG6.out hz vs, (setCells_other (show gv ≠ z by have := (Array.getElem?_eq_some_iff.1 HRV.out).1; omega) vs 0).trans h.2⟩⟩
              have HHK : Bx (HX Qx w6 w6.drew) := ⟨⟨(Below.refl _ _).drew, by rw [HQ0.out]; exact fun W W' h hb => ⟨h.1.below hb, up_row _ _ h.2 hb⟩, by rw [HQ0.out]; exact ⟨HG6.out.drew, HRV.out⟩⟩⟩
              clear HQ0
              go_cut [9] from 75 to 89 (fun s9 wx => ∃ gz, s9 = .pointer (some ⟨gz, 0, none⟩) ∧ Bx (w6.heap.size ≤ gz ∧ wx.heap[gz]? = some (.cells #[.int .i64 kd, .int .i64 t0, .int .i64 t1, .int .i64 t2, .int .i64 t3, .int .i64 rt, .int .i64 us] 109 (0, 0)) ∧ HX Qx w6 wx))
              case first =>
                have hk := HHK.out
                clear HHK HLP IH HUB HVT HSP
                refine wp_region_held_drew (S := fun W => HX Qx w6 W) (by kernel_rfl) hk (fun _ => ?_)
                generalize w6.drew = wk at hk ⊢
                refine wpAnyH_take (i := 0) (oi := { dst := some 75, op := Op.move (Operand.tmp 0), type := 81, pos := "ref.go:107", after := #[], guard := none }) (v := ?vrlg131) rfl (by kernel_rfl) (by kernel_rfl) (by kernel_rfl) (fun _ _ _ h => h) (Or.inl ⟨by rfl, ?yrlg131⟩) hk ?rrlg131
                case yrlg131 => (intro w hSw; (try dsimp only at hSw); go_simp; first | done | with_reducible rfl)
                simp only [Act.put, List.setIfInBounds_toArray, List.set_cons_zero, List.set_cons_succ]
                refine wpAnyH_take (i := 1) (oi := { dst := some 76, op := Op.nilCheck (Operand.tmp 75), type := 0, pos := "ref.go:107", after := #[{ on := 0, ground := Ground.data }], guard := none }) (v := ?vrlg132) rfl (by kernel_rfl) (by kernel_rfl) (by kernel_rfl) (fun _ _ _ h => h) (Or.inl ⟨by rfl, ?yrlg132⟩) hk ?rrlg132
                case yrlg132 => (intro w hSw; (try dsimp only at hSw); go_simp; first | done | with_reducible rfl)
                simp only [Act.put, List.setIfInBounds_toArray, List.set_cons_zero, List.set_cons_succ]
                refine wpAnyH_take (i := 2) (oi := { dst := some 77, op := Op.fieldAddr 84 (Operand.tmp 76) 0, type := 0, pos := "ref.go:107", after := #[{ on := 1, ground := Ground.data }], guard := none }) (v := ?vrlg133) rfl (by kernel_rfl) (by kernel_rfl) (by kernel_rfl) (fun _ _ _ h => h) (Or.inl ⟨by rfl, ?yrlg133⟩) hk ?rrlg133
                case yrlg133 => (intro w hSw; (try dsimp only at hSw); go_simp; first | done | with_reducible rfl)
                simp only [Act.put, List.setIfInBounds_toArray, List.set_cons_zero, List.set_cons_succ]
                refine wpAnyH_take (i := 3) (oi := { dst := some 78, op := Op.load 22 (Operand.tmp 77), type := 22, pos := "ref.go:107", after := #[{ on := 2, ground := Ground.data }], guard := none }) (v := ?vrlg134) rfl (by kernel_rfl) (by kernel_rfl) (by kernel_rfl) (fun _ _ _ h => h) (Or.inl ⟨by rfl, ?yrlg134⟩) hk ?rrlg134
                case yrlg134 => (intro w hSw; have hcw := (HQX.out _ hSw.q).1.se.cell.1; clear hSw; go_simp; first | done | with_reducible rfl)
                simp only [Act.put, List.setIfInBounds_toArray, List.set_cons_zero, List.set_cons_succ]
                refine wpAnyH_take (i := 4) (oi := { dst := some 79, op := Op.fieldAddr 88 (Operand.tmp 4) 1, type := 0, pos := "ref.go:107", after := #[], guard := none }) (v := ?vrlg135) rfl (by kernel_rfl) (by kernel_rfl) (by kernel_rfl) (fun _ _ _ h => h) (Or.inl ⟨by rfl, ?yrlg135⟩) hk ?rrlg135
                case yrlg135 => (intro w hSw; (try dsimp only at hSw); go_simp; first | done | with_reducible rfl)
                simp only [Act.put, List.setIfInBounds_toArray, List.set_cons_zero, List.set_cons_succ]
                refine wpAnyH_take (i := 5) (oi := { dst := some 80, op := Op.load 70 (Operand.tmp 79), type := 70, pos := "ref.go:107", after := #[{ on := 4, ground := Ground.data }], guard := none }) (v := .agg #[.int .i64 s0, .int .i64 s1, .int .i64 s2, .int .i64 s3]) rfl (by kernel_rfl) (by kernel_rfl) (by kernel_rfl) (fun _ _ _ h => h) (Or.inl ⟨by rfl, ?yrlg136⟩) hk ?rrlg136
                case yrlg136 => (intro w hSw; have hrw := (HQX.out _ hSw.q).1.pr; have q1 := cell_of_row _ gp 1 _ _ (0, 0) hrw; have q2 := cell_of_row _ gp 2 _ _ (0, 0) hrw; have q3 := cell_of_row _ gp 3 _ _ (0, 0) hrw; have q4 := cell_of_row _ gp 4 _ _ (0, 0) hrw; clear hSw hrw; go_simp; first | done | with_reducible rfl)
                simp only [Act.put, List.setIfInBounds_toArray, List.set_cons_zero, List.set_cons_succ]
                refine wpAnyH_take (i := 6) (oi := { dst := some 81, op := Op.fieldAddr 35 (Operand.tmp 8) 1, type := 0, pos := "ref.go:107", after := #[], guard := none }) (v := ?vrlg137) rfl (by kernel_rfl) (by kernel_rfl) (by kernel_rfl) (fun _ _ _ h => h) (Or.inl ⟨by rfl, ?yrlg137⟩) hk ?rrlg137
                case yrlg137 => (intro w hSw; (try dsimp only at hSw); go_simp; first | done | with_reducible rfl)
                simp only [Act.put, List.setIfInBounds_toArray, List.set_cons_zero, List.set_cons_succ]
                refine wpAnyH_take (i := 7) (oi := { dst := some 82, op := Op.load 3 (Operand.tmp 81), type := 3, pos := "ref.go:107", after := #[{ on := 6, ground := Ground.data }], guard := none }) (v := ?vrlg138) rfl (by kernel_rfl) (by kernel_rfl) (by kernel_rfl) (fun _ _ _ h => h) (Or.inl ⟨by rfl, ?yrlg138⟩) hk ?rrlg138
                case yrlg138 => (intro w hSw; have hcw := cell_of_row _ gv 1 _ _ (0, 0) (HQX.out _ hSw.q).2; clear hSw; go_simp; first | done | with_reducible rfl)
                simp only [Act.put, List.setIfInBounds_toArray, List.set_cons_zero, List.set_cons_succ]
                refine wpAnyH_take (i := 8) (oi := { dst := some 83, op := Op.fieldAddr 35 (Operand.tmp 8) 2, type := 0, pos := "ref.go:107", after := #[], guard := none }) (v := ?vrlg139) rfl (by kernel_rfl) (by kernel_rfl) (by kernel_rfl) (fun _ _ _ h => h) (Or.inl ⟨by rfl, ?yrlg139⟩) hk ?rrlg139
                case yrlg139 => (intro w hSw; (try dsimp only at hSw); go_simp; first | done | with_reducible rfl)
                simp only [Act.put, List.setIfInBounds_toArray, List.set_cons_zero, List.set_cons_succ]
                refine wpAnyH_take (i := 9) (oi := { dst := some 84, op := Op.load 2 (Operand.tmp 83), type := 2, pos := "ref.go:107", after := #[{ on := 8, ground := Ground.data }], guard := none }) (v := ?vrlg1310) rfl (by kernel_rfl) (by kernel_rfl) (by kernel_rfl) (fun _ _ _ h => h) (Or.inl ⟨by rfl, ?yrlg1310⟩) hk ?rrlg1310
                case yrlg1310 => (intro w hSw; have hcw := cell_of_row _ gv 2 _ _ (0, 0) (HQX.out _ hSw.q).2; clear hSw; go_simp; first | done | with_reducible rfl)
                simp only [Act.put, List.setIfInBounds_toArray, List.set_cons_zero, List.set_cons_succ]
                refine wpAnyH_take (i := 10) (oi := { dst := some 85, op := Op.move (Operand.tmp 0), type := 81, pos := "ref.go:107", after := #[], guard := none }) (v := ?vrlg1311) rfl (by kernel_rfl) (by kernel_rfl) (by kernel_rfl) (fun _ _ _ h => h) (Or.inl ⟨by rfl, ?yrlg1311⟩) hk ?rrlg1311
                case yrlg1311 => (intro w hSw; (try dsimp only at hSw); go_simp; first | done | with_reducible rfl)
                simp only [Act.put, List.setIfInBounds_toArray, List.set_cons_zero, List.set_cons_succ]
                refine wpAnyH_take (i := 11) (oi := { dst := some 86, op := Op.nilCheck (Operand.tmp 85), type := 0, pos := "ref.go:107", after := #[{ on := 10, ground := Ground.data }], guard := none }) (v := ?vrlg1312) rfl (by kernel_rfl) (by kernel_rfl) (by kernel_rfl) (fun _ _ _ h => h) (Or.inl ⟨by rfl, ?yrlg1312⟩) hk ?rrlg1312
                case yrlg1312 => (intro w hSw; (try dsimp only at hSw); go_simp; first | done | with_reducible rfl)
                simp only [Act.put, List.setIfInBounds_toArray, List.set_cons_zero, List.set_cons_succ]
                refine wpAnyH_take (i := 12) (oi := { dst := some 87, op := Op.fieldAddr 84 (Operand.tmp 86) 1, type := 0, pos := "ref.go:107", after := #[{ on := 11, ground := Ground.data }], guard := none }) (v := ?vrlg1313) rfl (by kernel_rfl) (by kernel_rfl) (by kernel_rfl) (fun _ _ _ h => h) (Or.inl ⟨by rfl, ?yrlg1313⟩) hk ?rrlg1313
                case yrlg1313 => (intro w hSw; (try dsimp only at hSw); go_simp; first | done | with_reducible rfl)
                simp only [Act.put, List.setIfInBounds_toArray, List.set_cons_zero, List.set_cons_succ]
                refine wpAnyH_take (i := 13) (oi := { dst := some 88, op := Op.load 3 (Operand.tmp 87), type := 3, pos := "ref.go:107", after := #[{ on := 12, ground := Ground.data }], guard := none }) (v := ?vrlg1314) rfl (by kernel_rfl) (by kernel_rfl) (by kernel_rfl) (fun _ _ _ h => h) (Or.inl ⟨by rfl, ?yrlg1314⟩) hk ?rrlg1314
                case yrlg1314 => (intro w hSw; have hcw := (HQX.out _ hSw.q).1.se.cell.2.1; clear hSw; go_simp; first | done | with_reducible rfl)
                simp only [Act.put, List.setIfInBounds_toArray, List.set_cons_zero, List.set_cons_succ]
                refine wpAnyH_ready (rs := [14, 15]) (by decide +kernel) (by simp) ?_
                refine (AllReadyH.cons (o := { dst := some 89, op := Op.call { callee := Callee.value (Operand.func 64), args := #[Operand.tmp 78, Operand.tmp 80, Operand.tmp 82, Operand.tmp 84, Operand.tmp 88], argTypes := #[22, 70, 3, 2, 3] }, type := 109, pos := "ref.go:107", after := #[{ on := 3, ground := Ground.data }, { on := 5, ground := Ground.data }, { on := 7, ground := Ground.data }, { on := 9, ground := Ground.data }, { on := 13, ground := Ground.data }], guard := none }) rfl (fun K hK => ?_) (AllReadyH.cons (o := { dst := some 9, op := Op.alloc 109, type := 0, pos := "ref.go:107", after := #[], guard := none }) rfl (fun K hK => ?_) AllReadyH.nil))
                · go_simp
                  refine (refstep_any aL nL cL l s0 s1 s2 s3 X.o X.a fu _ (HQX.out _ hk.q).1.ic HK.out.lk HV.out HXK.out.o HXK.out.a HK.out.fu).mono ?_
                  rintro e1 wk ⟨rfl, hb1⟩
                  rw [HST.out]
                  replace hk := hk.step hb1
                  try replace hz := hz.step hb1
                  clear hb1
                  refine hK.out _ _ hk (fun _ => ?_)
                  clear hK K
                  try simp only [Act.put, List.setIfInBounds_toArray, List.set_cons_zero, List.set_cons_succ]
                  refine wpAnyH_ready (rs := [15]) (by decide +kernel) (by simp) ?_
                  refine AllReadyH.cons (o := { dst := some 9, op := Op.alloc 109, type := 0, pos := "ref.go:107", after := #[], guard := none }) rfl (fun K hK => ?_) AllReadyH.nil
                  rw [if_pos (by rfl)]
                  refine wp_alloc_of 109 7 rfl st_zero ?_
                  intro cs hcs
                  have hz := NV.new (T := 109) (N0 := w6.heap.size) (wr := wk) hk.low.size hcs
                  have hbA : Below wk.heap.size wk (wk.alloc (.cells cs 109)) := (Below.refl _ _).alloc (Nat.le_refl _) _
                  replace hk := hk.step hbA
                  clear hbA hcs
                  generalize wk.heap.size = gz at hz ⊢
                  generalize wk.alloc (.cells cs 109) = wk at hz hk ⊢
                  simp only [Act.put, List.setIfInBounds_toArray, List.set_cons_zero, List.set_cons_succ]
                  refine hK.out _ _ hk (fun _ => ?_)
                  clear hK K
                  try simp only [Act.put, List.setIfInBounds_toArray, List.set_cons_zero, List.set_cons_succ]
                  refine wpAnyH_ready (rs := [16]) (by decide +kernel) (by simp) ?_
                  refine AllReadyH.cons (o := { dst := none, op := Op.store 109 (Operand.tmp 9) (Operand.tmp 89), type := 0, pos := "ref.go:107", after := #[{ on := 15, ground := Ground.data }, { on := 14, ground := Ground.data }, { on := 14, ground := Ground.chain }, { on := 0, ground := Ground.phase }, { on := 1, ground := Ground.phase }, { on := 2, ground := Ground.phase }, { on := 3, ground := Ground.phase }, { on := 4, ground := Ground.phase }, { on := 5, ground := Ground.phase }, { on := 6, ground := Ground.phase }, { on := 7, ground := Ground.phase }, { on := 8, ground := Ground.phase }, { on := 9, ground := Ground.phase }, { on := 10, ground := Ground.phase }, { on := 11, ground := Ground.phase }, { on := 12, ground := Ground.phase }, { on := 13, ground := Ground.phase }, { on := 14, ground := Ground.phase }, { on := 15, ground := Ground.phase }], guard := none }) rfl (fun K hK => ?_) AllReadyH.nil
                  rw [if_pos (by rfl)]
                  refine wp_store_mid 109 (.tmp 9) (.tmp 89) rfl gz 0 #[.int .i64 kd, .int .i64 t0, .int .i64 t1, .int .i64 t2, .int .i64 t3, .int .i64 rt, .int .i64 us] rfl rfl ?htrlg1316 st_info (st_one kd t0 t1 t2 t3 rt us) ?_
                  case htrlg1316 => exact hz.there rfl
                  have hrz := hz.put (D := #[.int .i64 kd, .int .i64 t0, .int .i64 t1, .int .i64 t2, .int .i64 t3, .int .i64 rt, .int .i64 us]) rfl
                  have hzge := hz.ge
                  replace hk : HX Qx w6 (wk.setCells gz 0 (#[.int .i64 kd, .int .i64 t0, .int .i64 t1, .int .i64 t2, .int .i64 t3, .int .i64 rt, .int .i64 us] : Array Value).toList) := ⟨below_setCells hk.low gz hzge _ 0, hk.up, HQP.out _ _ _ hk.q hzge⟩
                  clear hz
                  generalize wk.setCells gz 0 (#[.int .i64 kd, .int .i64 t0, .int .i64 t1, .int .i64 t2, .int .i64 t3, .int .i64 rt, .int .i64 us] : Array Value).toList = wk at hk hrz ⊢
                  simp only [Act.put]
                  refine hK.out _ _ hk (fun _ => ?_)
                  clear hK K
                  try simp only [Act.put, List.setIfInBounds_toArray, List.set_cons_zero, List.set_cons_succ]
                  refine wpAnyH_done (by decide +kernel) ?_ _
                  go_wp2_with fail
                  go_meet
                  case rel => exact ⟨gz, rfl, ⟨hzge, hrz, hk⟩⟩
                · rw [if_pos (by rfl)]
                  refine wp_alloc_of 109 7 rfl st_zero ?_
                  intro cs hcs
                  have hz := NV.new (T := 109) (N0 := w6.heap.size) (wr := wk) hk.low.size hcs
                  have hbA : Below wk.heap.size wk (wk.alloc (.cells cs 109)) := (Below.refl _ _).alloc (Nat.le_refl _) _
                  replace hk := hk.step hbA
                  clear hbA hcs
                  generalize wk.heap.size = gz at hz ⊢
                  generalize wk.alloc (.cells cs 109) = wk at hz hk ⊢
                  simp only [Act.put, List.setIfInBounds_toArray, List.set_cons_zero, List.set_cons_succ]
                  refine hK.out _ _ hk (fun _ => ?_)
                  clear hK K
                  try simp only [Act.put, List.setIfInBounds_toArray, List.set_cons_zero, List.set_cons_succ]
                  refine wpAnyH_ready (rs := [14]) (by decide +kernel) (by simp) ?_
                  refine AllReadyH.cons (o := { dst := some 89, op := Op.call { callee := Callee.value (Operand.func 64), args := #[Operand.tmp 78, Operand.tmp 80, Operand.tmp 82, Operand.tmp 84, Operand.tmp 88], argTypes := #[22, 70, 3, 2, 3] }, type := 109, pos := "ref.go:107", after := #[{ on := 3, ground := Ground.data }, { on := 5, ground := Ground.data }, { on := 7, ground := Ground.data }, { on := 9, ground := Ground.data }, { on := 13, ground := Ground.data }], guard := none }) rfl (fun K hK => ?_) AllReadyH.nil
                  go_simp
                  refine (refstep_any aL nL cL l s0 s1 s2 s3 X.o X.a fu _ (HQX.out _ hk.q).1.ic HK.out.lk HV.out HXK.out.o HXK.out.a HK.out.fu).mono ?_
                  rintro e1 wk ⟨rfl, hb1⟩
                  rw [HST.out]
                  replace hk := hk.step hb1
                  try replace hz := hz.step hb1
                  clear hb1
                  refine hK.out _ _ hk (fun _ => ?_)
                  clear hK K
                  try simp only [Act.put, List.setIfInBounds_toArray, List.set_cons_zero, List.set_cons_succ]
                  refine wpAnyH_ready (rs := [16]) (by decide +kernel) (by simp) ?_
                  refine AllReadyH.cons (o := { dst := none, op := Op.store 109 (Operand.tmp 9) (Operand.tmp 89), type := 0, pos := "ref.go:107", after := #[{ on := 15, ground := Ground.data }, { on := 14, ground := Ground.data }, { on := 14, ground := Ground.chain }, { on := 0, ground := Ground.phase }, { on := 1, ground := Ground.phase }, { on := 2, ground := Ground.phase }, { on := 3, ground := Ground.phase }, { on := 4, ground := Ground.phase }, { on := 5, ground := Ground.phase }, { on := 6, ground := Ground.phase }, { on := 7, ground := Ground.phase }, { on := 8, ground := Ground.phase }, { on := 9, ground := Ground.phase }, { on := 10, ground := Ground.phase }, { on := 11, ground := Ground.phase }, { on := 12, ground := Ground.phase }, { on := 13, ground := Ground.phase }, { on := 14, ground := Ground.phase }, { on := 15, ground := Ground.phase }], guard := none }) rfl (fun K hK => ?_) AllReadyH.nil
                  rw [if_pos (by rfl)]
                  refine wp_store_mid 109 (.tmp 9) (.tmp 89) rfl gz 0 #[.int .i64 kd, .int .i64 t0, .int .i64 t1, .int .i64 t2, .int .i64 t3, .int .i64 rt, .int .i64 us] rfl rfl ?htrlg1318 st_info (st_one kd t0 t1 t2 t3 rt us) ?_
                  case htrlg1318 => exact hz.there rfl
                  have hrz := hz.put (D := #[.int .i64 kd, .int .i64 t0, .int .i64 t1, .int .i64 t2, .int .i64 t3, .int .i64 rt, .int .i64 us]) rfl
                  have hzge := hz.ge
                  replace hk : HX Qx w6 (wk.setCells gz 0 (#[.int .i64 kd, .int .i64 t0, .int .i64 t1, .int .i64 t2, .int .i64 t3, .int .i64 rt, .int .i64 us] : Array Value).toList) := ⟨below_setCells hk.low gz hzge _ 0, hk.up, HQP.out _ _ _ hk.q hzge⟩
                  clear hz
                  generalize wk.setCells gz 0 (#[.int .i64 kd, .int .i64 t0, .int .i64 t1, .int .i64 t2, .int .i64 t3, .int .i64 rt, .int .i64 us] : Array Value).toList = wk at hk hrz ⊢
                  simp only [Act.put]
                  refine hK.out _ _ hk (fun _ => ?_)
                  clear hK K
                  try simp only [Act.put, List.setIfInBounds_toArray, List.set_cons_zero, List.set_cons_succ]
                  refine wpAnyH_done (by decide +kernel) ?_ _
                  go_wp2_with fail
                  go_meet
                  case rel => exact ⟨gz, rfl, ⟨hzge, hrz, hk⟩⟩
              case rest =>
                obtain ⟨gz, rfl, HZ⟩ := hcut
                obtain ⟨w7, hw7⟩ : ∃ w7, w7 = wc := ⟨_, rfl⟩
                subst hw7
                have HG7 := Bx.mk (HQX.out _ HZ.out.2.2.q).1
                have HRV7 := Bx.mk (HQX.out _ HZ.out.2.2.q).2
                have HRZ := Bx.mk HZ.out.2.1
                have q0 := cell_of_row _ gz 0 _ _ (0, 0) HRZ.out
                have q1 := cell_of_row _ gz 1 _ _ (0, 0) HRZ.out
                have q2 := cell_of_row _ gz 2 _ _ (0, 0) HRZ.out
                have q3 := cell_of_row _ gz 3 _ _ (0, 0) HRZ.out
                have q4 := cell_of_row _ gz 4 _ _ (0, 0) HRZ.out
                have q5 := cell_of_row _ gz 5 _ _ (0, 0) HRZ.out
                have r3 := cell_of_row _ gv 3 _ _ (0, 0) HRV7.out
                have r4 := cell_of_row _ gv 4 _ _ (0, 0) HRV7.out
                clear HZ HQX HQP HHK HG6 HRV HRV7 HST HXK
                by_cases hk3 : kd = 3
                · have HRO := Bx.mk ((lp_fuel HKS.out HFR.out HUB.out (tr_fuel HXE.out HSP.out hk3)).symm.trans HLP.out)
                  have hq3 : (kd == 3) = true := by simpa using hk3
                  clear hk3
                  go_wp2_with fail
                  go_ret
                  exact HG7.out.over HRO.out (by decide)
                · have hq3 : (kd == 3) = false := by simpa using hk3
                  have HK3 := Bx.mk hk3
                  clear hk3
                  by_cases h1 : kd = 1
                  · subst h1
                    obtain ⟨bd, HBD⟩ : ∃ bd : Bool, Bx (decide (X.d = true ∧ X.r ≠ rt) = bd) := ⟨_, ⟨rfl⟩⟩
                    go_upto_region 16 with fail
                    go_cut [106] from 93 to 105 (fun s106 wx => s106 = .bool bd ∧ w7 = wx)
                    case first =>
                      have hdd : X.d = false ∨ X.d = true := by cases X.d <;> simp
                      rcases hdd with hd | hd
                      · rw [hd] at r3
                        have HF : Bx (bd = false) := ⟨by rw [← HBD.out]; exact decide_eq_false (by rintro ⟨h, _⟩; rw [hd] at h; cases h)⟩
                        clear hd
                        go_wp2_with fail
                        go_meet
                        case rel => exact ⟨by rw [HF.out], rfl⟩
                      · rw [hd] at r3
                        by_cases hr : X.r = rt
                        · have HF : Bx (bd = false) := ⟨by rw [← HBD.out]; exact decide_eq_false (by rintro ⟨_, h⟩; exact h hr)⟩
                          have hq6 : (rt != X.r) = false := by simp [hr]
                          clear hd hr
                          go_wp2_with fail
                          go_meet
                          case rel => exact ⟨by rw [HF.out], rfl⟩
                        · have HF : Bx (bd = true) := ⟨by rw [← HBD.out]; exact decide_eq_true ⟨hd, hr⟩⟩
                          have hq6 : (rt != X.r) = true := by simp; exact fun e => hr e.symm
                          clear hd hr
                          go_wp2_with fail
                          go_meet
                          case rel => exact ⟨by rw [HF.out], rfl⟩
                    case rest =>
                      obtain ⟨rfl, hw7⟩ := hcut
                      subst hw7
                      clear r3 r4 q0 q5
                      cases bd with
                      | true =>
                        have HL2 := Bx.mk ((lp_no HKS.out HFR.out HUB.out (tr_no HXE.out HSP.out HK3.out (.inr (of_decide_eq_true HBD.out)))).symm.trans HLP.out)
                        go_wp2_with fail
                        go_roundw
                        case rel => exact ⟨k + 1, vX, V, u + 1, by omega, by go_num, HG7, HL2⟩
                        case measure => simp [intOf]; omega
                      | false =>
                        have HTY : Bx ((srO l fu ops).tr ⟨I, [s0, s1, s2, s3]⟩ k = .yes ⟨I.set k true, [t0, t1, t2, t3]⟩) := ⟨tr_ok HXE.out HSP.out (by rintro (h | h); exact h rfl; exact of_decide_eq_false HBD.out h) (by rw [HIL.out, HK.out.len]) HKO.out⟩
                        clear HBD HK3 HSP HXE hq3
                        have HV2 : Bx (V.length ≤ u + 2) := ⟨by have := HG7.out.ln.1; omega⟩
                        rcases own_none HG7.out.pi with ⟨_, hn0, _⟩ | ⟨bI, hbI⟩
                        · omega
                        subst hbI
                        obtain ⟨gq, HGQ⟩ : ∃ gq, Bx (gq = w7.heap.size) := ⟨_, ⟨rfl⟩⟩
                        have hba : Below w7.heap.size w7 (w7.alloc (.cells #[.slice none 0 0, .int .i64 t0, .int .i64 t1, .int .i64 t2, .int .i64 t3] 88)) := (Below.refl _ _).alloc (Nat.le_refl _) _
                        have hra := heap_alloc_new w7 (.cells #[.slice none 0 0, .int .i64 t0, .int .i64 t1, .int .i64 t2, .int .i64 t3] 88)
                        have hsz : (w7.alloc (.cells #[.slice none 0 0, .int .i64 t0, .int .i64 t1, .int .i64 t2, .int .i64 t3] 88)).heap.size = gq + 1 := by rw [HGQ.out]; simp
                        rw [← HGQ.out] at hra
                        have HR8 := Bx.mk hra
                        have HS8 := Bx.mk hsz
                        have HG8 := Bx.mk (HG7.out.below hba)
                        clear hba hra hsz
                        go_upto_region 18 with fail
                        rw [← HGQ.out]
                        generalize w7.alloc (.cells #[.slice none 0 0, .int .i64 t0, .int .i64 t1, .int .i64 t2, .int .i64 t3] 88) = w8 at HR8 HS8 HG8 ⊢
                        clear q1 q2 q3 q4
                        have p0 := cell_of_row _ gp 0 _ _ (0, 0) HG8.out.pr
                        have v0 := cell_of_row _ gq 0 _ _ (0, 0) HR8.out
                        obtain ⟨i0, hi, hz0, hz1, hz2⟩ := info_parts Try.infoB18
                        have HFL : Bx ((I.flatMap bvC).length = n * 1) := ⟨by rw [flatE_len bvC_len, HIL.out]⟩
                        have HCE := Bx.mk (HG8.out.pi.cells (g := bI) rfl)
                        have HON1 := Bx.mk (flatE_one bvC_one I)
                        go_wp2_with (at_builtin; refine wpList_append_own _ rfl _ _ 86 rfl w8.heap.size 4 i0 (.bool false) 1 1 Try.underlying86 hi hz0 hz1 hz2 rfl (by decide) _ 0 [] rfl (World.ownsRow_nil _ _ _ _) ⟨bI, 0, none⟩ n c (I.flatMap bvC) rfl HFL.out HCE.out HON1.out ?gb3 ?gb4 (Nat.le_refl _) ?_)
                        case gb3 => unfold maxLen; omega
                        case gb4 => omega
                        intro v1 w9 ho1 hg1 _
                        have ho2 : w9.ownsRow w8.heap.size 4 1 v1 n (I.flatMap bvC) := by simpa using ho1
                        obtain ⟨gi, cq, rfl, hgi, hgi2⟩ := owns_form ho2 (by omega)
                        have hb9 : Below w8.heap.size w8 w9 := (Below.refl _ _).grown hg1 (Nat.le_refl _) (by intro k hk; cases hk)
                        have HI9 := Bx.mk ho2
                        have HG9 := Bx.mk (HG8.out.below hb9)
                        have HR9 := Bx.mk (up_row _ _ HR8.out hb9)
                        have HGI : Bx (gq < gi ∧ w7.heap.size ≤ gq ∧ w7.heap.size ≤ gi) := ⟨by have := HS8.out; have := HGQ.out; omega⟩
                        have HN8 := Bx.mk HG8.out.se.size
                        clear ho1 hg1 ho2 hgi hgi2 hb9 hi hz0 hz1 hz2 p0 v0 HFL HCE HON1 HR8 HS8 HG8
                        have v0 := cell_of_row _ gq 0 _ _ (0, 0) HR9.out
                        have f0 := frozen_of_row _ gq 0 _ _ HR9.out
                        have HG10 := Bx.mk (HG9.out.cell1 HLB.out HG7.out HGI.out.2.1 0 (.slice (some ⟨gi, 0, none⟩) n cq))
                        have HR10 := Bx.mk (heap_setCell_same w9 gq 0 _ _ (.slice (some ⟨gi, 0, none⟩) n cq) HR9.out)
                        have HI10 := Bx.mk (ownsRow_setCell_other HI9.out (a := ⟨gq, 0, none⟩) (fun e => by cases e; have := HGI.out.1; omega) (.slice (some ⟨gi, 0, none⟩) n cq))
                        go_upto_region 19 with fail
                        generalize w9.setCell ⟨gq, 0, none⟩ (.slice (some ⟨gi, 0, none⟩) n cq) = w10 at HG10 HR10 HI10 ⊢
                        clear v0 f0 HR9 HI9 HG9
                        have v0 := cell_of_row _ gq 0 _ _ (0, 0) HR10.out
                        have e0 : w10.cell? ⟨gi, k, none⟩ = some (.bool (I.getD k false)) := by rw [HI10.out.cellAt k (by omega)]; exact bv_get' I k (by rw [HIL.out]; exact hlt) false
                        have e1 := HI10.out.frozenAt k
                        have HG11 := Bx.mk (HG10.out.cell1 HLB.out HG7.out HGI.out.2.2 k (.bool true))
                        have HR11 := Bx.mk ((heap_setCell_other w10 ⟨gi, k, none⟩ gq (.bool true) (show gq ≠ gi by have := HGI.out.1; omega)).trans HR10.out)
                        have HI11 : Bx ((w10.setCell ⟨gi, k, none⟩ (.bool true)).ownsRow w8.heap.size 4 1 (.slice (some ⟨gi, 0, none⟩) n cq) n ((I.set k true).flatMap bvC)) := ⟨by
                          have h1 := (HI10.out.stored k (.bool true)).1
                          rw [bv_set] at h1
                          exact h1⟩
                        go_wp2_with fail
                        generalize w10.setCell ⟨gi, k, none⟩ (.bool true) = w11 at HG11 HR11 HI11 ⊢
                        clear v0 e0 e1 HR10 HI10 HG10
                        have HI11N := Bx.mk (owns_base HI11.out HN8.out)
                        have HIS : Bx ((I.set k true).length = n) := ⟨by rw [List.length_set]; exact HIL.out⟩
                        obtain ⟨aX, cX, hvX⟩ := own_sl HG11.out.se.own
                        subst hvX
                        go_loopw [11, 12] (fun b j wr => ∃ m : Nat, m ≤ V.length ∧ j = .int .i64 m ∧ b = .bool (decide ((⟨I.set k true, [t0, t1, t2, t3]⟩ : Po) ∈ (V.map Pl.p).take m)) ∧ Bx (Below w11.heap.size w11 wr)) (fun _ j _ => V.length - (intOf j).toNat)
                        case atStart => exact ⟨0, Nat.zero_le _, rfl, by simp, ⟨Below.refl _ _⟩⟩
                        case round =>
                          obtain ⟨j, hjV, rfl, rfl, HBJ⟩ := hrel
                          obtain ⟨b0, HB0⟩ : ∃ b0, Bx (decide ((⟨I.set k true, [t0, t1, t2, t3]⟩ : Po) ∈ (V.map Pl.p).take j) = b0) := ⟨_, ⟨rfl⟩⟩
                          rw [HB0.out]
                          have HGJ := Bx.mk (HG11.out.below HBJ.out)
                          have z4 := HGJ.out.se.cell.2.2.2.2.1
                          have hV2 := HV2.out
                          by_cases hjl : j < V.length
                          · have hjI : (j : Int) < ((V.length : Nat) : Int) := by omega
                            obtain ⟨x, HXJ⟩ : ∃ x, Bx (V[j] = x) := ⟨_, ⟨rfl⟩⟩
                            have HJM : Bx (j < (V.map Pl.p).length) := ⟨by rw [List.length_map]; exact hjl⟩
                            have HSN2 := Bx.mk (was_snoc (q := ⟨I.set k true, [t0, t1, t2, t3]⟩) HJM.out (show (V.map Pl.p)[j]'HJM.out = x.p by rw [List.getElem_map, HXJ.out]))
                            rw [HB0.out] at HSN2
                            cases b0 with
                            | true =>
                              rw [Bool.true_or] at HSN2
                              go_wp2_with fail
                              go_quiet (fail)
                              go_wp2_with fail
                              go_roundw
                              case rel => exact ⟨j + 1, by omega, by go_num, by rw [HSN2.out], ⟨below_drewN HBJ.out _⟩⟩
                              case measure => simp [intOf]; omega
                            | false =>
                              rw [Bool.false_or] at HSN2
                              rcases own_none HGJ.out.se.own with ⟨_, h0, _⟩ | ⟨gX, hgX⟩
                              · omega
                              subst hgX
                              obtain ⟨b1, HB1⟩ : ∃ b1, Bx (decide (x.p = (⟨I.set k true, [t0, t1, t2, t3]⟩ : Po)) = b1) := ⟨_, ⟨rfl⟩⟩
                              rw [HB1.out] at HSN2
                              have HXM : Bx (x ∈ V) := ⟨by rw [← HXJ.out]; exact List.getElem_mem hjl⟩
                              have HSM : Bx (decide ((⟨x.p.I, [x.p.S.getD 0 0, x.p.S.getD 1 0, x.p.S.getD 2 0, x.p.S.getD 3 0]⟩ : Po) = ⟨I.set k true, [t0, t1, t2, t3]⟩) = b1) := ⟨by rw [← po_eta (HG11.out.se.ins x HXM.out).2.2]; exact HB1.out⟩
                              obtain ⟨Qw, HQ0⟩ : ∃ Qw : World → Prop, Bx (Qw = fun W => GI N w g gp aL nL cL fu bu (some ⟨b2, o2, none⟩) n cO vW l ops (some ⟨bI, 0, none⟩) c I s0 s1 s2 s3 aR cR o W (.slice (some ⟨gX, 0, none⟩) V.length cX) V (u + 1) ∧ W.heap[gq]? = some (.cells #[.slice (some ⟨gi, 0, none⟩) n cq, .int .i64 t0, .int .i64 t1, .int .i64 t2, .int .i64 t3] 88 (0, 0)) ∧ W.ownsRow N 4 1 (.slice (some ⟨gi, 0, none⟩) n cq) n ((I.set k true).flatMap bvC)) := ⟨_, ⟨rfl⟩⟩
                              have HQW : Bx (∀ W, Qw W → GI N w g gp aL nL cL fu bu (some ⟨b2, o2, none⟩) n cO vW l ops (some ⟨bI, 0, none⟩) c I s0 s1 s2 s3 aR cR o W (.slice (some ⟨gX, 0, none⟩) V.length cX) V (u + 1) ∧ W.heap[gq]? = some (.cells #[.slice (some ⟨gi, 0, none⟩) n cq, .int .i64 t0, .int .i64 t1, .int .i64 t2, .int .i64 t3] 88 (0, 0)) ∧ W.ownsRow N 4 1 (.slice (some ⟨gi, 0, none⟩) n cq) n ((I.set k true).flatMap bvC)) := ⟨fun W h => by rw [HQ0.out] at h; exact h⟩
                              have HQB : Bx (∀ W, Qw W → Bvs W x.a n x.c x.p.I ∧ Bvs W (some ⟨gi, 0, none⟩) n cq (I.set k true)) := ⟨fun W h => by
                                have h2 := HQW.out W h
                                obtain ⟨i1, i2, _⟩ := h2.1.se.ins x HXM.out
                                obtain ⟨_, _, e1, hE1⟩ := Ls.of_owns bvC_len i1 i2
                                cases e1
                                obtain ⟨_, _, e2, hE2⟩ := Ls.of_owns bvC_len h2.2.2 HIS.out
                                cases e2
                                exact ⟨hE1, hE2⟩⟩
                              have HHK : Bx (HX Qw w11 wr.drew) := ⟨⟨HBJ.out.drew, by rw [HQ0.out]; exact fun W W' h hb => ⟨h.1.below hb, up_row _ _ h.2.1 hb, owns_below h.2.2 hb⟩, by rw [HQ0.out]; exact ⟨HG11.out.below HBJ.out.drew, up_row _ _ HR11.out HBJ.out.drew, owns_below HI11N.out HBJ.out.drew⟩⟩⟩
                              clear HQ0
                              go_upto_region 24 with fail
                              have hk := HHK.out
                              clear HHK HGJ z4 HLP IH
                              refine wp_region_held_drew (S := fun W => HX Qw w11 W) (by kernel_rfl) hk (fun _ => ?_)
                              generalize wr.drew = wk at hk ⊢
                              refine wpAnyH_take (i := 0) (oi := { dst := some 129, op := Op.move (Operand.tmp 11), type := 4, pos := "ref.go:119", after := #[], guard := none }) (v := ?vrlg241) rfl (by kernel_rfl) (by kernel_rfl) (by kernel_rfl) (fun _ _ _ h => h) (Or.inl ⟨by rfl, ?yrlg241⟩) hk ?rrlg241
                              case yrlg241 => (intro w hSw; (try dsimp only at hSw); go_simp; first | done | with_reducible rfl)
                              simp only [Act.put, List.setIfInBounds_toArray, List.set_cons_zero, List.set_cons_succ]
                              refine wpAnyH_take (i := 1) (oi := { dst := some 130, op := Op.move (Operand.tmp 129), type := 4, pos := "ref.go:119", after := #[{ on := 0, ground := Ground.data }], guard := none }) (v := ?vrlg242) rfl (by kernel_rfl) (by kernel_rfl) (by kernel_rfl) (fun _ _ _ h => h) (Or.inl ⟨by rfl, ?yrlg242⟩) hk ?rrlg242
                              case yrlg242 => (intro w hSw; (try dsimp only at hSw); go_simp; first | done | with_reducible rfl)
                              simp only [Act.put, List.setIfInBounds_toArray, List.set_cons_zero, List.set_cons_succ]
                              refine wpAnyH_take (i := 2) (oi := { dst := some 131, op := Op.move (Operand.tmp 0), type := 81, pos := "ref.go:119", after := #[{ on := 1, ground := Ground.guard }], guard := some (1, false) }) (v := ?vrlg243) rfl (by kernel_rfl) (by kernel_rfl) (by kernel_rfl) (fun _ _ _ h => h) (Or.inl ⟨by rfl, ?yrlg243⟩) hk ?rrlg243
                              case yrlg243 => (intro w hSw; (try dsimp only at hSw); go_simp; first | done | with_reducible rfl)
                              simp only [Act.put, List.setIfInBounds_toArray, List.set_cons_zero, List.set_cons_succ]
                              refine wpAnyH_take (i := 3) (oi := { dst := some 132, op := Op.nilCheck (Operand.tmp 131), type := 0, pos := "ref.go:119", after := #[{ on := 2, ground := Ground.data }, { on := 1, ground := Ground.guard }], guard := some (1, false) }) (v := ?vrlg244) rfl (by kernel_rfl) (by kernel_rfl) (by kernel_rfl) (fun _ _ _ h => h) (Or.inl ⟨by rfl, ?yrlg244⟩) hk ?rrlg244
                              case yrlg244 => (intro w hSw; (try dsimp only at hSw); go_simp; first | done | with_reducible rfl)
                              simp only [Act.put, List.setIfInBounds_toArray, List.set_cons_zero, List.set_cons_succ]
                              refine wpAnyH_take (i := 4) (oi := { dst := some 133, op := Op.fieldAddr 84 (Operand.tmp 132) 4, type := 0, pos := "ref.go:119", after := #[{ on := 3, ground := Ground.data }, { on := 1, ground := Ground.guard }], guard := some (1, false) }) (v := ?vrlg245) rfl (by kernel_rfl) (by kernel_rfl) (by kernel_rfl) (fun _ _ _ h => h) (Or.inl ⟨by rfl, ?yrlg245⟩) hk ?rrlg245
                              case yrlg245 => (intro w hSw; (try dsimp only at hSw); go_simp; first | done | with_reducible rfl)
                              simp only [Act.put, List.setIfInBounds_toArray, List.set_cons_zero, List.set_cons_succ]
                              refine wpAnyH_take (i := 5) (oi := { dst := some 134, op := Op.load 82 (Operand.tmp 133), type := 82, pos := "ref.go:119", after := #[{ on := 4, ground := Ground.data }, { on := 1, ground := Ground.guard }], guard := some (1, false) }) (v := ?vrlg246) rfl (by kernel_rfl) (by kernel_rfl) (by kernel_rfl) (fun _ _ _ h => h) (Or.inl ⟨by rfl, ?yrlg246⟩) hk ?rrlg246
                              case yrlg246 => (intro w hSw; have hcw := (HQW.out _ hSw.q).1.se.cell.2.2.2.2.1; clear hSw; go_simp; first | done | with_reducible rfl)
                              simp only [Act.put, List.setIfInBounds_toArray, List.set_cons_zero, List.set_cons_succ]
                              refine wpAnyH_take (i := 6) (oi := { dst := some 135, op := Op.move (Operand.tmp 12), type := 3, pos := "ref.go:119", after := #[{ on := 1, ground := Ground.guard }], guard := some (1, false) }) (v := ?vrlg247) rfl (by kernel_rfl) (by kernel_rfl) (by kernel_rfl) (fun _ _ _ h => h) (Or.inl ⟨by rfl, ?yrlg247⟩) hk ?rrlg247
                              case yrlg247 => (intro w hSw; (try dsimp only at hSw); go_simp; first | done | with_reducible rfl)
                              simp only [Act.put, List.setIfInBounds_toArray, List.set_cons_zero, List.set_cons_succ]
                              refine wpAnyH_take (i := 7) (oi := { dst := some 136, op := Op.indexAddr 82 (Operand.tmp 134) (Operand.tmp 135), type := 0, pos := "ref.go:119", after := #[{ on := 5, ground := Ground.data }, { on := 6, ground := Ground.data }, { on := 1, ground := Ground.guard }], guard := some (1, false) }) (v := ?vrlg248) rfl (by kernel_rfl) (by kernel_rfl) (by kernel_rfl) (fun _ _ _ h => h) (Or.inl ⟨by rfl, ?yrlg248⟩) hk ?rrlg248
                              case yrlg248 => (intro w hSw; (try dsimp only at hSw); go_simp; first | done | with_reducible rfl)
                              simp only [Act.put, List.setIfInBounds_toArray, List.set_cons_zero, List.set_cons_succ]
                              refine wpAnyH_take (i := 8) (oi := { dst := some 137, op := Op.load 88 (Operand.tmp 136), type := 88, pos := "ref.go:119", after := #[{ on := 7, ground := Ground.data }, { on := 1, ground := Ground.guard }], guard := some (1, false) }) (v := .agg #[.slice x.a n x.c, .int .i64 (x.p.S.getD 0 0), .int .i64 (x.p.S.getD 1 0), .int .i64 (x.p.S.getD 2 0), .int .i64 (x.p.S.getD 3 0)]) rfl (by kernel_rfl) (by kernel_rfl) (by kernel_rfl) (fun _ _ _ h => h) (Or.inl ⟨by rfl, ?yrlg249⟩) hk ?rrlg249
                              case yrlg249 => (intro w hSw; obtain ⟨q0, q1, q2, q3, q4⟩ := pl_spot (HQW.out _ hSw.q).1.se.own j hjl HXJ.out; clear hSw; go_simp; first | done | with_reducible rfl)
                              simp only [Act.put, List.setIfInBounds_toArray, List.set_cons_zero, List.set_cons_succ]
                              refine wpAnyH_take (i := 9) (oi := { dst := some 138, op := Op.load 88 (Operand.tmp 10), type := 88, pos := "ref.go:119", after := #[{ on := 1, ground := Ground.guard }], guard := some (1, false) }) (v := .agg #[.slice (some ⟨gi, 0, none⟩) n cq, .int .i64 t0, .int .i64 t1, .int .i64 t2, .int .i64 t3]) rfl (by kernel_rfl) (by kernel_rfl) (by kernel_rfl) (fun _ _ _ h => h) (Or.inl ⟨by rfl, ?yrlg2410⟩) hk ?rrlg2410
                              case yrlg2410 => (intro w hSw; have hrw := (HQW.out _ hSw.q).2.1; have q0 := cell_of_row _ gq 0 _ _ (0, 0) hrw; have q1 := cell_of_row _ gq 1 _ _ (0, 0) hrw; have q2 := cell_of_row _ gq 2 _ _ (0, 0) hrw; have q3 := cell_of_row _ gq 3 _ _ (0, 0) hrw; have q4 := cell_of_row _ gq 4 _ _ (0, 0) hrw; clear hSw hrw; go_simp; first | done | with_reducible rfl)
                              simp only [Act.put, List.setIfInBounds_toArray, List.set_cons_zero, List.set_cons_succ]
                              refine wpAnyH_ready (rs := [10]) (by decide +kernel) (by simp) ?_
                              refine AllReadyH.cons (o := { dst := some 139, op := Op.call { callee := Callee.value (Operand.func 65), args := #[Operand.tmp 137, Operand.tmp 138], argTypes := #[88, 88] }, type := 4, pos := "ref.go:119", after := #[{ on := 8, ground := Ground.data }, { on := 9, ground := Ground.data }, { on := 1, ground := Ground.chain }, { on := 1, ground := Ground.guard }], guard := some (1, false) }) rfl (fun K hK => ?_) AllReadyH.nil
                              go_simp
                              refine (same18_any x.a (some ⟨gi, 0, none⟩) n x.c cq x.p.I (I.set k true) (x.p.S.getD 0 0) (x.p.S.getD 1 0) (x.p.S.getD 2 0) (x.p.S.getD 3 0) t0 t1 t2 t3 _ (HQB.out _ hk.q).1 (HQB.out _ hk.q).2).mono ?_
                              rintro e1 wk ⟨rfl, hb1⟩
                              rw [HSM.out]
                              replace hk := hk.step hb1
                              clear hb1
                              refine hK.out _ _ hk (fun _ => ?_)
                              clear hK K
                              try simp only [Act.put, List.setIfInBounds_toArray, List.set_cons_zero, List.set_cons_succ]
                              refine wpAnyH_take (i := 11) (oi := { dst := some 140, op := Op.pick (Operand.tmp 130) (Operand.const (Value.bool true)) (Operand.tmp 139), type := 4, pos := "ref.go:119", after := #[{ on := 1, ground := Ground.data }, { on := 10, ground := Ground.data }], guard := none }) (v := ?vrlg2411) rfl (by kernel_rfl) (by kernel_rfl) (by kernel_rfl) (fun _ _ _ h => h) (Or.inl ⟨by rfl, ?yrlg2411⟩) hk ?rrlg2411
                              case yrlg2411 => (intro w hSw; (try dsimp only at hSw); go_simp; first | done | with_reducible rfl)
                              simp only [Act.put, List.setIfInBounds_toArray, List.set_cons_zero, List.set_cons_succ]
                              refine wpAnyH_take (i := 12) (oi := { dst := some 11, op := Op.assign (Operand.tmp 140), type := 4, pos := "ref.go:119", after := #[{ on := 11, ground := Ground.data }, { on := 10, ground := Ground.chain }, { on := 0, ground := Ground.phase }, { on := 1, ground := Ground.phase }, { on := 2, ground := Ground.phase }, { on := 3, ground := Ground.phase }, { on := 4, ground := Ground.phase }, { on := 5, ground := Ground.phase }, { on := 6, ground := Ground.phase }, { on := 7, ground := Ground.phase }, { on := 8, ground := Ground.phase }, { on := 9, ground := Ground.phase }, { on := 10, ground := Ground.phase }, { on := 11, ground := Ground.phase }], guard := none }) (v := ?vrlg2412) rfl (by kernel_rfl) (by kernel_rfl) (by kernel_rfl) (fun _ _ _ h => h) (Or.inl ⟨by rfl, ?yrlg2412⟩) hk ?rrlg2412
                              case yrlg2412 => (intro w hSw; (try dsimp only at hSw); go_simp; first | done | with_reducible rfl)
                              simp only [Act.put, List.setIfInBounds_toArray, List.set_cons_zero, List.set_cons_succ]
                              refine wpAnyH_done (by decide +kernel) ?_ _
                              have HB8 := Bx.mk hk.low
                              clear hk
                              go_wp2_with fail
                              go_roundw
                              case rel => exact ⟨j + 1, by omega, by go_num, by rw [HSN2.out], HB8⟩
                              case measure => simp [intOf]; omega
                          · have hjI : ¬ (j : Int) < ((V.length : Nat) : Int) := by omega
                            have HWA : Bx (decide ((⟨I.set k true, [t0, t1, t2, t3]⟩ : Po) ∈ V.map Pl.p) = b0) := ⟨by rw [← HB0.out, List.take_of_length_le (by rw [List.length_map]; omega)]⟩
                            cases b0 with
                            | true =>
                              have HL2 := Bx.mk ((lp_was HKS.out HFR.out HUB.out HTY.out (of_decide_eq_true HWA.out)).symm.trans HLP.out)
                              go_wp2_with fail
                              go_roundw
                              case rel => exact ⟨k + 1, _, V, u + 1, by omega, by go_num, HGJ, HL2⟩
                              case measure => simp [intOf]; omega
                            | false =>
                              have HNW := Bx.mk (of_decide_eq_false HWA.out)
                              obtain ⟨wj, hwj⟩ : ∃ wj, wj = wr := ⟨_, rfl⟩
                              subst hwj
                              obtain ⟨oq, HOQ⟩ : ∃ oq, Bx (o ++ [k] = oq) := ⟨_, ⟨rfl⟩⟩
                              have HOL : Bx (oq.length = o.length + 1) := ⟨by rw [← HOQ.out]; simp⟩
                              have HOI : Bx ((orI oq).flatMap ivC = (orI o).flatMap ivC ++ [.int .i64 (k : Int)]) := ⟨by rw [← HOQ.out, orI_snoc, List.flatMap_append]; rfl⟩
                              have hol : o.length ≤ 64 := by have := HON.out; omega
                              have HNS := Bx.mk HGJ.out.se.size
                              go_upto_region 27 with fail
                              go_cut [13] from 142 to 147 (fun s13 wx => ∃ aQ cQ, s13 = .slice aQ oq.length cQ ∧ Bx (wx.ownsRow N 3 1 (.slice aQ oq.length cQ) oq.length ((orI oq).flatMap ivC) ∧ Below wj.heap.size wj wx))
                              case first =>
                                clear HLP IH
                                obtain ⟨i0, hi, hz0, hz1, hz2⟩ := info_parts Try.infoI18
                                rcases own_none HGJ.out.od with ⟨hn1, hn2, hn3⟩ | ⟨gR, hgR⟩
                                · obtain rfl := hn1
                                  obtain rfl := hn3
                                  obtain rfl : o = [] := List.eq_nil_of_length_eq_zero hn2
                                  have HNW2 := Bx.mk (World.news_of_block (heap_alloc_new wj (.cells #[.int .i64 (k : Int)] 3)))
                                  have HBA : Bx (Below wj.heap.size wj (wj.alloc (.cells #[.int .i64 (k : Int)] 3))) := ⟨(Below.refl _ _).alloc (Nat.le_refl _) _⟩
                                  have HSZ := Bx.mk HBA.out.size
                                  clear hn2
                                  go_wp2_with (at_builtin; first | refine wpList_append_own_none rfl _ _ 37 rfl wj.heap.size 3 i0 1 Try.underlying37 hi _ 0 [] rfl (World.ownsRow_nil _ _ _ _) rfl ?_ | refine wpList_append_own _ rfl _ _ 37 rfl wj.heap.size 3 i0 (.int .i64 0) 1 8 Try.underlying37 hi hz0 hz1 hz2 rfl (by decide) _ 0 [] rfl (World.ownsRow_nil _ _ _ _) ⟨wj.heap.size, 0, none⟩ 1 1 [.int .i64 (k : Int)] rfl rfl HNW2.out (by simp [Value.oneCell']) (by unfold maxLen; omega) (by omega) HSZ.out ?_)
                                  intro v1 w13 ho1 hg1 _
                                  obtain ⟨aQ, cQ, rfl⟩ := own_sl ho1
                                  have HQ1 := Bx.mk (owns_base ho1 HNS.out)
                                  have HB13 := Bx.mk (HBA.out.grown hg1 HSZ.out (by intro k hk; cases hk))
                                  clear ho1 hg1 hi hz0 hz1 hz2
                                  go_wp2_with fail
                                  go_meet
                                  case rel => exact ⟨aQ, cQ, by rw [HOL.out]; rfl, ⟨by rw [HOI.out, HOL.out]; simpa [orI] using HQ1.out, HB13.out⟩⟩
                                · obtain rfl := hgR
                                  have HFL : Bx (((orI o).flatMap ivC).length = o.length * 1) := ⟨by rw [flatE_len ivC_len, orI_len]⟩
                                  have HCE := Bx.mk (HGJ.out.od.cells (g := gR) rfl)
                                  have HON1 := Bx.mk (flatE_one ivC_one (orI o))
                                  go_wp2_with (at_builtin; refine wpList_append_own _ rfl _ _ 37 rfl wj.heap.size 3 i0 (.int .i64 0) 1 8 Try.underlying37 hi hz0 hz1 hz2 rfl (by decide) _ 0 [] rfl (World.ownsRow_nil _ _ _ _) ⟨gR, 0, none⟩ o.length cR ((orI o).flatMap ivC) rfl HFL.out HCE.out HON1.out ?gd3 ?gd4 (Nat.le_refl _) ?_)
                                  case gd3 => unfold maxLen; omega
                                  case gd4 => omega
                                  intro v12 w12 ho12 hg12 _
                                  have ho2 : w12.ownsRow wj.heap.size 3 1 v12 o.length ((orI o).flatMap ivC) := by simpa using ho12
                                  obtain ⟨a12, c12, rfl⟩ := own_sl ho2
                                  have hb12 : Below wj.heap.size wj w12 := (Below.refl _ _).grown hg12 (Nat.le_refl _) (by intro k hk; cases hk)
                                  have hbA : Below w12.heap.size w12 (w12.alloc (.cells #[.int .i64 (k : Int)] 3)) := (Below.refl _ _).alloc (Nat.le_refl _) _
                                  have HNW2 := Bx.mk (World.news_of_block (heap_alloc_new w12 (.cells #[.int .i64 (k : Int)] 3)))
                                  have HOA := Bx.mk (owns_below ho2 hbA)
                                  have HBA := Bx.mk (bstep hb12 hbA)
                                  have HSZ := Bx.mk HBA.out.size
                                  have HLO : Bx (∀ j, (Value.slice a12 o.length c12).ownBlock = some j → wj.heap.size ≤ j) := ⟨fun j e => (ho2.lt j e).1⟩
                                  clear ho12 hg12 ho2 hb12 hbA HFL HCE HON1
                                  go_wp2_with (at_builtin; refine wpList_append_own _ rfl _ _ 37 rfl wj.heap.size 3 i0 (.int .i64 0) 1 8 Try.underlying37 hi hz0 hz1 hz2 rfl (by decide) _ o.length ((orI o).flatMap ivC) rfl HOA.out ⟨w12.heap.size, 0, none⟩ 1 1 [.int .i64 (k : Int)] rfl rfl HNW2.out (by simp [Value.oneCell']) ?ge3 ?ge4 HSZ.out ?_)
                                  case ge3 => unfold maxLen; omega
                                  case ge4 => omega
                                  intro v1 w13 ho1 hg1 _
                                  obtain ⟨aQ, cQ, rfl⟩ := own_sl ho1
                                  have HQ1 := Bx.mk (owns_base ho1 HNS.out)
                                  have HB13 := Bx.mk (HBA.out.grown hg1 HSZ.out HLO.out)
                                  clear ho1 hg1 hi hz0 hz1 hz2
                                  go_wp2_with fail
                                  go_meet
                                  case rel => exact ⟨aQ, cQ, by rw [HOL.out], ⟨by rw [HOI.out, HOL.out]; exact HQ1.out, HB13.out⟩⟩
                              case rest =>
                                obtain ⟨aQ, cQ, rfl, HQ13⟩ := hcut
                                obtain ⟨w13, hw13⟩ : ∃ w13, w13 = wc := ⟨_, rfl⟩
                                subst hw13
                                have HG13 := Bx.mk (HGJ.out.below HQ13.out.2)
                                have HR13 := Bx.mk (up_row _ _ (up_row _ _ HR11.out HBJ.out) HQ13.out.2)
                                have HI13 := Bx.mk (owns_below (owns_below HI11N.out HBJ.out) HQ13.out.2)
                                have HO13 := Bx.mk HQ13.out.1
                                have y0 := cell_of_row _ gq 0 _ _ (0, 0) HR13.out
                                have y1 := cell_of_row _ gq 1 _ _ (0, 0) HR13.out
                                have y2 := cell_of_row _ gq 2 _ _ (0, 0) HR13.out
                                have y3 := cell_of_row _ gq 3 _ _ (0, 0) HR13.out
                                have y4 := cell_of_row _ gq 4 _ _ (0, 0) HR13.out
                                have HRQ : Bx ((srO l fu ops).rank ⟨I.set k true, [t0, t1, t2, t3]⟩ < (srO l fu ops).rank ⟨I, [s0, s1, s2, s3]⟩) := ⟨srO_ok.down _ _ _ HFR.out HTY.out⟩
                                have HMM : Bx ((srO l fu ops).rank ⟨I.set k true, [t0, t1, t2, t3]⟩ < mm) := ⟨Nat.lt_of_lt_of_le HRQ.out HRK.out⟩
                                have HOM : Bx (oq.length + (srO l fu ops).rank ⟨I.set k true, [t0, t1, t2, t3]⟩ ≤ n) := ⟨by have h1 := HOL.out; have h2 := HRQ.out; have h3 := HON.out; omega⟩
                                have HLI : Bx ((gs (srO l fu ops) bu.toNat ⟨I.set k true, [t0, t1, t2, t3]⟩ (o ++ [k]) (V.map Pl.p) (u + 1)).k = 0 → lp (srO l fu ops) bu.toNat (gs (srO l fu ops) bu.toNat) ⟨I, [s0, s1, s2, s3]⟩ o ((List.range (srO l fu ops).n).drop (k + 1)) (gs (srO l fu ops) bu.toNat ⟨I.set k true, [t0, t1, t2, t3]⟩ (o ++ [k]) (V.map Pl.p) (u + 1)).W (gs (srO l fu ops) bu.toNat ⟨I.set k true, [t0, t1, t2, t3]⟩ (o ++ [k]) (V.map Pl.p) (u + 1)).t = R) := ⟨fun h0 => (lp_in0 HKS.out HFR.out HUB.out HTY.out HNW.out h0).symm.trans HLP.out⟩
                                have HLJ : Bx ((gs (srO l fu ops) bu.toNat ⟨I.set k true, [t0, t1, t2, t3]⟩ (o ++ [k]) (V.map Pl.p) (u + 1)).k ≠ 0 → gs (srO l fu ops) bu.toNat ⟨I.set k true, [t0, t1, t2, t3]⟩ (o ++ [k]) (V.map Pl.p) (u + 1) = R) := ⟨fun h0 => (lp_in HKS.out HFR.out HUB.out HTY.out HNW.out h0).symm.trans HLP.out⟩
                                rw [HOQ.out] at HLJ
                                clear HGJ HQ13 HNS z4 hjI HOI
                                go_wp2_with fail
                                refine (IH.out _ HMM.out (some ⟨gi, 0, none⟩) cq (I.set k true) t0 t1 t2 t3 aQ cQ oq (.slice aX V.length cX) V (u + 1) w13 (Nat.le_refl _) HOM.out HG13.out.se HG13.out.ic HG13.out.oo HI13.out HIS.out HVT.out HO13.out HVU.out HG13.out.ln.2).mono ?_
                                rintro e w14 hG
                                rw [HOQ.out] at HLI
                                obtain ⟨Rq, HRQQ⟩ : ∃ Rq, Bx (gs (srO l fu ops) bu.toNat ⟨I.set k true, [t0, t1, t2, t3]⟩ oq (V.map Pl.p) (u + 1) = Rq) := ⟨_, ⟨rfl⟩⟩
                                rw [HRQQ.out] at hG HLI HLJ
                                have HT := Bx.mk (HG13.out.told hG)
                                obtain ⟨V', vY', vO', rfl, hS', hW', hl', ha', hk', ho'⟩ := hG
                                obtain ⟨kq, HKQ⟩ : ∃ kq : Nat, Bx (Rq.k = kq) := ⟨_, ⟨rfl⟩⟩
                                rw [HKQ.out] at HT ⊢
                                clear y0 y1 y2 y3 y4
                                by_cases hkq : kq = 0
                                · have HO' : Bx (vO' = .slice none 0 0) := ⟨ho'.2 (by rw [HKQ.out, hkq]; decide)⟩
                                  rw [HO'.out] at hS'
                                  have HG14 := Bx.mk (HG13.out.gone HLB.out hS' hl' ha' hk')
                                  have HL2 : Bx (lp (srO l fu ops) bu.toNat (gs (srO l fu ops) bu.toNat) ⟨I, [s0, s1, s2, s3]⟩ o ((List.range (srO l fu ops).n).drop (k + 1)) (V'.map Pl.p) Rq.t = R) := ⟨by rw [hW']; exact HLI.out (by rw [HKQ.out]; exact hkq)⟩
                                  subst hkq
                                  clear hS' hW' hl' ha' hk' ho' HT HLI HLJ HO'
                                  go_wp2_with fail
                                  go_roundw
                                  case rel => exact ⟨k + 1, vY', V', Rq.t, by omega, by go_num, HG14, HL2⟩
                                  case measure => simp [intOf]; omega
                                · have HRE : Bx (R = Rq) := ⟨(HLJ.out (by rw [HKQ.out]; exact hkq)).symm⟩
                                  have hq : ((kq : Int) != 0) = true := by simp; omega
                                  clear hS' hW' hl' ha' hk' ho' HLI HLJ hkq
                                  go_wp2_with fail
                                  go_ret
                                  rw [HRE.out]
                                  exact HT.out
                  · have hq1 : (kd != 1) = true := by simpa using h1
                    have HL2 := Bx.mk ((lp_no HKS.out HFR.out HUB.out (tr_no HXE.out HSP.out HK3.out (.inl h1))).symm.trans HLP.out)
                    clear h1
                    go_wp2_with fail
                    go_roundw
                    case rel => exact ⟨k + 1, vX, V, u + 1, by omega, by go_num, HG7, HL2⟩
                    case measure => simp [intOf]; omega
        · have hkI : ¬ (k : Int) < (n : Int) := by omega
          have HRO := Bx.mk ((lp_end (by rw [HSN.out]; omega)).symm.trans HLP.out)
          go_wp2_with fail
          go_ret
          exact HG.out.over HRO.out (by decide)
end Go.Proofs.Ytbjeeefkbmdmfaa
