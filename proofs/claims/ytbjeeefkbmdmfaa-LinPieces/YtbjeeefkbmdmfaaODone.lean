/- Those that are done stand there; time. -/
import Derived.Test.YtbjeeefkbmdmfaaOIdx
import Derived.Test.YtbjeeefkbmdmfaaHBef
import Derived.Test.YtbjeeefkbmdmfaaLnd
import Derived.Deep.CutRange
namespace Go.Proofs.Ytbjeeefkbmdmfaa
open Go.RowKit
set_option linter.unusedVariables false

set_option maxRecDepth 100000 in
/-- the cells of an operation of a list -/
theorem or_cells {w : World} {b off n c : Nat} {L : List Opr} {X : Opr} (h : Ors w (some ⟨b, off, none⟩) n c L) (i : Nat) (hi : i < n) (hX : L.getD i op0 = X) :
    w.cell? ⟨b, off + i * 7, none⟩ = some (.int .i64 X.c) ∧ w.cell? ⟨b, off + i * 7 + 1, none⟩ = some (.int .i64 X.o) ∧ w.cell? ⟨b, off + i * 7 + 2, none⟩ = some (.int .i64 X.a) ∧ w.cell? ⟨b, off + i * 7 + 3, none⟩ = some (.bool X.d) ∧
    w.cell? ⟨b, off + i * 7 + 4, none⟩ = some (.int .i64 X.r) ∧ w.cell? ⟨b, off + i * 7 + 5, none⟩ = some (.int .i64 X.f) ∧ w.cell? ⟨b, off + i * 7 + 6, none⟩ = some (.int .i64 X.t) := by
  obtain ⟨b', off', e, _, hh⟩ := h.or i hi
  cases e
  rw [hX] at hh
  exact hh
set_option maxRecDepth 100000 in
theorem iv_cell {w : World} {b off n c : Nat} {L : List Int} {x : Int} (h : Ivs w (some ⟨b, off, none⟩) n c L) (i : Nat) (hi : i < n) (hx : L.getD i 0 = x) : w.cell? ⟨b, off + i, none⟩ = some (.int .i64 x) := by
  obtain ⟨b', off', e, _, hh⟩ := h.iv i hi 0
  cases e
  rw [hx] at hh
  exact hh
set_option maxRecDepth 100000 in
theorem ordN_yes {ops : List Opr} {o : List Int} {i : Nat} (hi : i < ops.length) (hd : (ops.getD i op0).d = true) (hc : o.contains (i : Int) = false) : ordN ops o = true := by
  unfold ordN
  rw [List.any_eq_true]
  exact ⟨i, List.mem_range.2 hi, by rw [hd, hc]; rfl⟩
set_option maxRecDepth 100000 in
theorem ordN_no {ops : List Opr} {o : List Int} (h : ∀ i, i < ops.length → (ops.getD i op0).d = true → o.contains (i : Int) = true) : ordN ops o = false :=
  ordN_iff.2 fun i hi hd => by have := h i hi hd; rw [List.contains_eq_mem] at this; simpa using this
set_option maxHeartbeats 4000000 in
set_option maxRecDepth 100000 in
theorem alldone_any (a b : Option Addr) (n c m d : Nat) (ops : List Opr) (o : List Int) (w : World) (h : Ors w a n c ops) (h2 : Ivs w b m d o) :
    Calls Try.prog 45 #[.slice a n c, .slice b m d] w fun e w' => e = .returned (.bool (!ordN ops o)) ∧ Below w.heap.size w w' := by
  have H := Bx.mk h
  have H2 := Bx.mk h2
  have HLEN : Bx (ops.length = n) := ⟨h.len_eq⟩
  have hn := Nat.le_trans h.le_cap h.cap_le
  unfold maxLen at hn
  clear h h2
  go_enter Try.func45, Try.ntmps45
  go_wp2_with fail
  go_loopw [9] (fun i wr => ∃ k : Nat, k ≤ n ∧ i = .int .i64 k ∧ Bx (∀ j, j < k → (ops.getD j op0).d = true → o.contains (j : Int) = true) ∧ Bx (Below w.heap.size w wr)) (fun i _ => n - (intOf i).toNat)
  case atStart => exact ⟨0, Nat.zero_le _, rfl, ⟨fun j hj => absurd hj (Nat.not_lt_zero _)⟩, ⟨Below.refl _ _⟩⟩
  case round =>
    obtain ⟨k, hk, rfl, HA, HB⟩ := hrel
    by_cases hlt : k < n
    · have hkI : (k : Int) < (n : Int) := by omega
      have HKL : Bx (k < ops.length) := ⟨by rw [HLEN.out]; exact hlt⟩
      obtain ⟨b1, o1, rfl, _, x0, x1, x2, x3, x4, x5, x6⟩ := (H.out.below HB.out).or k hlt
      obtain ⟨X, HXE⟩ : ∃ X, Bx (ops.getD k op0 = X) := ⟨_, ⟨rfl⟩⟩
      rw [HXE.out] at x0 x1 x2 x3 x4 x5 x6
      obtain ⟨xc, xo, xa, xd, xr, xf, xt⟩ := X
      simp only at x0 x1 x2 x3 x4 x5 x6
      obtain ⟨g7, HG7⟩ : ∃ g7, Bx (g7 = wr.heap.size) := ⟨_, ⟨rfl⟩⟩
      have hba : Below wr.heap.size wr (wr.alloc (.cells #[.int .i64 xc, .int .i64 xo, .int .i64 xa, .bool xd, .int .i64 xr, .int .i64 xf, .int .i64 xt] 35)) := (Below.refl _ _).alloc (Nat.le_refl _) _
      have hra := heap_alloc_new wr (.cells #[.int .i64 xc, .int .i64 xo, .int .i64 xa, .bool xd, .int .i64 xr, .int .i64 xf, .int .i64 xt] 35)
      rw [← HG7.out] at hra
      have HRA := Bx.mk hra
      have HB1 := Bx.mk (bstep HB.out hba)
      clear hba hra HB
      go_upto_region 4 with fail
      rw [← HG7.out]
      generalize wr.alloc (.cells #[.int .i64 xc, .int .i64 xo, .int .i64 xa, .bool xd, .int .i64 xr, .int .i64 xf, .int .i64 xt] 35) = w1 at HRA HB1 ⊢
      clear x0 x1 x2 x3 x4 x5 x6
      have y3 := cell_of_row _ g7 3 _ _ (0, 0) HRA.out
      cases xd with
      | false =>
        have HA2 : Bx (∀ j, j < k + 1 → (ops.getD j op0).d = true → o.contains (j : Int) = true) := ⟨fun j hj hd => by
          by_cases e : j = k
          · subst e; rw [HXE.out] at hd; cases hd
          · exact HA.out j (by omega) hd⟩
        go_wp2_with fail
        go_roundw
        case rel => exact ⟨k + 1, by omega, by go_num, HA2, HB1⟩
        case measure => simp [intOf]; omega
      | true =>
        have HI := Bx.mk (H2.out.below HB1.out)
        go_wp2_with fail
        refine (contains_any b m d o (k : Int) _ HI.out).mono ?_
        rintro e w2 ⟨rfl, hb2⟩
        have HB2 := Bx.mk (bstep HB1.out hb2)
        clear hb2
        cases hcn : o.contains (k : Int) with
        | false =>
          have HF : Bx (ordN ops o = true) := ⟨ordN_yes HKL.out (by rw [HXE.out]) hcn⟩
          clear hcn
          go_wp2_with fail
          go_ret
          exact ⟨by rw [HF.out]; rfl, HB2.out⟩
        | true =>
          have HA2 : Bx (∀ j, j < k + 1 → (ops.getD j op0).d = true → o.contains (j : Int) = true) := ⟨fun j hj hd => by
            by_cases e : j = k
            · subst e; exact hcn
            · exact HA.out j (by omega) hd⟩
          clear hcn
          go_wp2_with fail
          go_roundw
          case rel => exact ⟨k + 1, by omega, by go_num, HA2, HB2⟩
          case measure => simp [intOf]; omega
    · have hkI : ¬ (k : Int) < (n : Int) := by omega
      have HF : Bx (ordN ops o = false) := ⟨ordN_no fun i hi hd => HA.out i (by rw [HLEN.out] at hi; omega) hd⟩
      go_wp2_with fail
      go_ret
      exact ⟨by rw [HF.out]; rfl, HB.out⟩
set_option maxRecDepth 100000 in
theorem ivs_under : Try.prog.underlying 37 = some (.slice (Try.prog.elem 37)) := by kernel_rfl
set_option maxRecDepth 100000 in
theorem ivs_size (w : World) : (sizeOf (Try.prog.elem 37)).run Try.prog w = .ok 1 w := by kernel_rfl
set_option maxRecDepth 100000 in
theorem ivs_cut (g off len cap q : Nat) (hq : q ≤ cap) (w : World) : (Instr.sliceAt 37 (.slice (some ⟨g, off, none⟩) len cap) none (some (.int .i64 q)) none).run Try.prog w = .ok (.slice (some ⟨g, off, none⟩) q cap) w := by
  rw [run_sliceAt_slice w _ _ _ _ _ ivs_under, run_slice_h w _ _ len cap ivs_under .i64 q (by omega) (by omega), ivs_size]
  simp [sliced, Addr.add_lit]
/-- numbers that are places -/
def PlN (m : Nat) (o : List Int) : Prop := ∀ i, i < o.length → 0 ≤ o.getD i 0 ∧ o.getD i 0 < (m : Int)
set_option maxRecDepth 100000 in
theorem PlN.nat {m : Nat} {o : List Int} (h : PlN m o) {i : Nat} (hi : i < o.length) : ∃ p : Nat, o.getD i 0 = (p : Int) ∧ p < m := by
  have := h i hi
  exact ⟨(o.getD i 0).toNat, by omega, by omega⟩
set_option maxRecDepth 100000 in
theorem pln_of {m : Nat} {o : List Int} (h : ordA m o = true) : PlN m o := fun i hi => by have := ordA_iff.1 h i hi; exact ⟨this.1, this.2.1⟩
set_option maxRecDepth 100000 in
theorem opAt_pl (ops : List Opr) (p : Nat) : opAt ops (p : Int) = ops.getD p op0 := by unfold opAt; rw [Int.toNat_natCast]
set_option maxRecDepth 100000 in
theorem ordT_yes {ops : List Opr} {o : List Int} {i k : Nat} (hik : i < k) (hk : k < o.length) (h : befO (opAt ops (o.getD k 0)) (opAt ops (o.getD i 0)) = true) : ordT ops o = true := by
  cases e : ordT ops o with
  | true => rfl
  | false => rw [ordT_iff.1 e i k hik hk] at h; cases h
set_option maxRecDepth 100000 in
theorem up_ors {a : Option Addr} {n c : Nat} {L : List Opr} : Up (fun W => Ors W a n c L) := fun W W' h hb => h.below hb
set_option maxHeartbeats 4000000 in
set_option maxRecDepth 100000 in
theorem intime_any (a b : Option Addr) (n c m d : Nat) (ops : List Opr) (o : List Int) (w : World) (h : Ors w a n c ops) (h2 : Ivs w b m d o) (hp : PlN ops.length o) :
    Calls Try.prog 46 #[.slice a n c, .slice b m d] w fun e w' => e = .returned (.bool (!ordT ops o)) ∧ Below w.heap.size w w' := by
  have H := Bx.mk h
  have H2 := Bx.mk h2
  have HP := Bx.mk hp
  have HLEN : Bx (ops.length = n) := ⟨h.len_eq⟩
  have HLO : Bx (o.length = m) := ⟨h2.len_eq⟩
  have hn := Nat.le_trans h.le_cap h.cap_le
  have hm := Nat.le_trans h2.le_cap h2.cap_le
  have hmd := h2.le_cap
  unfold maxLen at hn hm
  clear h h2 hp
  go_enter Try.func46, Try.ntmps46
  go_wp2_with fail
  go_loopw [11] (fun i wr => ∃ k : Nat, k ≤ m ∧ i = .int .i64 k ∧ Bx (∀ i j, i < j → j < k → befO (opAt ops (o.getD j 0)) (opAt ops (o.getD i 0)) = false) ∧ Bx (Below w.heap.size w wr)) (fun i _ => m - (intOf i).toNat)
  case atStart => exact ⟨0, Nat.zero_le _, rfl, ⟨fun i j _ hj => absurd hj (Nat.not_lt_zero _)⟩, ⟨Below.refl _ _⟩⟩
  case round =>
    obtain ⟨k, hk, rfl, HA, HB⟩ := hrel
    by_cases hlt : k < m
    · have hkI : (k : Int) < (m : Int) := by omega
      have HKL : Bx (k < o.length) := ⟨by rw [HLO.out]; exact hlt⟩
      obtain ⟨b1, o1, rfl, _, x0⟩ := (H2.out.below HB.out).iv k hlt 0
      obtain ⟨p, hpe, hpl⟩ := HP.out.nat HKL.out
      have HPE := Bx.mk hpe
      have hpn : p < n := by rw [← HLEN.out]; exact hpl
      have hpI : (p : Int) < (n : Int) := by omega
      have hsl := ivs_cut b1 o1 m d k (by omega)
      rw [hpe] at x0
      clear hpe hpl
      go_wp2_with fail
      go_loopw [20] (fun i wr => ∃ q : Nat, q ≤ k ∧ i = .int .i64 q ∧ Bx (∀ j, j < q → befO (opAt ops (p : Int)) (opAt ops (o.getD j 0)) = false) ∧ Bx (Below w.heap.size w wr)) (fun i _ => k - (intOf i).toNat)
      case atStart => exact ⟨0, Nat.zero_le _, rfl, ⟨fun j hj => absurd hj (Nat.not_lt_zero _)⟩, HB⟩
      case round =>
        clear HB x0
        obtain ⟨q, hq, rfl, HQA, HB⟩ := hrel
        by_cases hqk : q < k
        · have hqI : (q : Int) < (k : Int) := by omega
          have HQL : Bx (q < o.length) := ⟨by have := HKL.out; omega⟩
          obtain ⟨r, hre, hrl⟩ := HP.out.nat HQL.out
          have HRE := Bx.mk hre
          have hrn : r < n := by rw [← HLEN.out]; exact hrl
          have hrI : (r : Int) < (n : Int) := by omega
          have x1 := iv_cell (H2.out.below HB.out) q (by omega) hre
          obtain ⟨b2, o2, rfl, _⟩ := H.out.spot (by omega)
          obtain ⟨X, HXE⟩ : ∃ X, Bx (ops.getD p op0 = X) := ⟨_, ⟨rfl⟩⟩
          obtain ⟨Y, HYE⟩ : ∃ Y, Bx (ops.getD r op0 = Y) := ⟨_, ⟨rfl⟩⟩
          obtain ⟨t, HBF⟩ : ∃ t, Bx (befO X Y = t) := ⟨_, ⟨rfl⟩⟩
          have HBT : Bx (befO (opAt ops (p : Int)) (opAt ops (o.getD q 0)) = t) := ⟨by rw [HRE.out, opAt_pl, opAt_pl, HXE.out, HYE.out, HBF.out]⟩
          obtain ⟨Qt, HQ0⟩ : ∃ Qt : World → Prop, Bx (Qt = fun W => Ors W (some ⟨b2, o2, none⟩) n c ops) := ⟨_, ⟨rfl⟩⟩
          have HQT : Bx (∀ W, Qt W → Ors W (some ⟨b2, o2, none⟩) n c ops) := ⟨fun W h => by rw [HQ0.out] at h; exact h⟩
          have HHK : Bx (HX Qt w wr.drew) := ⟨⟨HB.out.drew, by rw [HQ0.out]; exact up_ors, by rw [HQ0.out]; exact H.out.below HB.out.drew⟩⟩
          clear HQ0 hre hrl
          go_upto_region 7 with fail
          have hk := HHK.out
          clear x1 HHK HB
          refine wp_region_held_drew (S := fun W => HX Qt w W) (by kernel_rfl) hk (fun _ => ?_)
          generalize wr.drew = wk at hk ⊢
          refine wpAnyH_take (i := 0) (oi := { dst := some 24, op := Op.move (Operand.tmp 0), type := 23, pos := "order.go:58", after := #[], guard := none }) (v := ?voit71) rfl (by kernel_rfl) (by kernel_rfl) (by kernel_rfl) (fun _ _ _ h => h) (Or.inl ⟨by rfl, ?yoit71⟩) hk ?roit71
          case yoit71 => (intro w hSw; (try dsimp only at hSw); go_simp; first | done | with_reducible rfl)
          simp only [Act.put, List.setIfInBounds_toArray, List.set_cons_zero, List.set_cons_succ]
          refine wpAnyH_take (i := 1) (oi := { dst := some 25, op := Op.move (Operand.tmp 6), type := 3, pos := "order.go:58", after := #[], guard := none }) (v := ?voit72) rfl (by kernel_rfl) (by kernel_rfl) (by kernel_rfl) (fun _ _ _ h => h) (Or.inl ⟨by rfl, ?yoit72⟩) hk ?roit72
          case yoit72 => (intro w hSw; (try dsimp only at hSw); go_simp; first | done | with_reducible rfl)
          simp only [Act.put, List.setIfInBounds_toArray, List.set_cons_zero, List.set_cons_succ]
          refine wpAnyH_take (i := 2) (oi := { dst := some 26, op := Op.indexAddr 23 (Operand.tmp 24) (Operand.tmp 25), type := 0, pos := "order.go:58", after := #[{ on := 0, ground := Ground.data }, { on := 1, ground := Ground.data }], guard := none }) (v := ?voit73) rfl (by kernel_rfl) (by kernel_rfl) (by kernel_rfl) (fun _ _ _ h => h) (Or.inl ⟨by rfl, ?yoit73⟩) hk ?roit73
          case yoit73 => (intro w hSw; (try dsimp only at hSw); go_simp; first | done | with_reducible rfl)
          simp only [Act.put, List.setIfInBounds_toArray, List.set_cons_zero, List.set_cons_succ]
          refine wpAnyH_take (i := 3) (oi := { dst := some 27, op := Op.load 35 (Operand.tmp 26), type := 35, pos := "order.go:58", after := #[{ on := 2, ground := Ground.data }], guard := none }) (v := .agg #[.int .i64 X.c, .int .i64 X.o, .int .i64 X.a, .bool X.d, .int .i64 X.r, .int .i64 X.f, .int .i64 X.t]) rfl (by kernel_rfl) (by kernel_rfl) (by kernel_rfl) (fun _ _ _ h => h) (Or.inl ⟨by rfl, ?yoit74⟩) hk ?roit74
          case yoit74 => (intro w hSw; obtain ⟨q0, q1, q2, q3, q4, q5, q6⟩ := or_cells (HQT.out _ hSw.q) p hpn HXE.out; clear hSw; go_simp; first | done | with_reducible rfl)
          simp only [Act.put, List.setIfInBounds_toArray, List.set_cons_zero, List.set_cons_succ]
          refine wpAnyH_take (i := 4) (oi := { dst := some 28, op := Op.move (Operand.tmp 0), type := 23, pos := "order.go:58", after := #[], guard := none }) (v := ?voit75) rfl (by kernel_rfl) (by kernel_rfl) (by kernel_rfl) (fun _ _ _ h => h) (Or.inl ⟨by rfl, ?yoit75⟩) hk ?roit75
          case yoit75 => (intro w hSw; (try dsimp only at hSw); go_simp; first | done | with_reducible rfl)
          simp only [Act.put, List.setIfInBounds_toArray, List.set_cons_zero, List.set_cons_succ]
          refine wpAnyH_take (i := 5) (oi := { dst := some 29, op := Op.move (Operand.tmp 8), type := 3, pos := "order.go:58", after := #[], guard := none }) (v := ?voit76) rfl (by kernel_rfl) (by kernel_rfl) (by kernel_rfl) (fun _ _ _ h => h) (Or.inl ⟨by rfl, ?yoit76⟩) hk ?roit76
          case yoit76 => (intro w hSw; (try dsimp only at hSw); go_simp; first | done | with_reducible rfl)
          simp only [Act.put, List.setIfInBounds_toArray, List.set_cons_zero, List.set_cons_succ]
          refine wpAnyH_take (i := 6) (oi := { dst := some 30, op := Op.indexAddr 23 (Operand.tmp 28) (Operand.tmp 29), type := 0, pos := "order.go:58", after := #[{ on := 4, ground := Ground.data }, { on := 5, ground := Ground.data }], guard := none }) (v := ?voit77) rfl (by kernel_rfl) (by kernel_rfl) (by kernel_rfl) (fun _ _ _ h => h) (Or.inl ⟨by rfl, ?yoit77⟩) hk ?roit77
          case yoit77 => (intro w hSw; (try dsimp only at hSw); go_simp; first | done | with_reducible rfl)
          simp only [Act.put, List.setIfInBounds_toArray, List.set_cons_zero, List.set_cons_succ]
          refine wpAnyH_take (i := 7) (oi := { dst := some 31, op := Op.load 35 (Operand.tmp 30), type := 35, pos := "order.go:58", after := #[{ on := 6, ground := Ground.data }], guard := none }) (v := .agg #[.int .i64 Y.c, .int .i64 Y.o, .int .i64 Y.a, .bool Y.d, .int .i64 Y.r, .int .i64 Y.f, .int .i64 Y.t]) rfl (by kernel_rfl) (by kernel_rfl) (by kernel_rfl) (fun _ _ _ h => h) (Or.inl ⟨by rfl, ?yoit78⟩) hk ?roit78
          case yoit78 => (intro w hSw; obtain ⟨q0, q1, q2, q3, q4, q5, q6⟩ := or_cells (HQT.out _ hSw.q) r hrn HYE.out; clear hSw; go_simp; first | done | with_reducible rfl)
          simp only [Act.put, List.setIfInBounds_toArray, List.set_cons_zero, List.set_cons_succ]
          refine wpAnyH_ready (rs := [8]) (by decide +kernel) (by simp) ?_
          refine AllReadyH.cons (o := { dst := some 32, op := Op.call { callee := Callee.value (Operand.func 51), args := #[Operand.tmp 27, Operand.tmp 31], argTypes := #[35, 35] }, type := 4, pos := "order.go:58", after := #[{ on := 3, ground := Ground.data }, { on := 7, ground := Ground.data }], guard := none }) rfl (fun K hK => ?_) AllReadyH.nil
          go_simp
          refine (before_any X Y _).mono ?_
          rintro e1 wk ⟨rfl, hb1⟩
          rw [HBF.out]
          replace hk := hk.step hb1
          clear hb1
          refine hK.out _ _ hk (fun _ => ?_)
          clear hK K
          try simp only [Act.put, List.setIfInBounds_toArray, List.set_cons_zero, List.set_cons_succ]
          refine wpAnyH_done (by decide +kernel) ?_ _
          have HB8 := Bx.mk hk.low
          clear hk
          cases t with
          | true =>
            have HF : Bx (ordT ops o = true) := ⟨ordT_yes hqk HKL.out (by rw [HPE.out]; exact HBT.out)⟩
            go_wp2_with fail
            go_ret
            exact ⟨by rw [HF.out]; rfl, HB8.out⟩
          | false =>
            have HQ2 : Bx (∀ j, j < q + 1 → befO (opAt ops (p : Int)) (opAt ops (o.getD j 0)) = false) := ⟨fun j hj => by
              by_cases e : j = q
              · subst e; exact HBT.out
              · exact HQA.out j (by omega)⟩
            go_wp2_with fail
            go_roundw
            case rel => exact ⟨q + 1, by omega, by go_num, HQ2, HB8⟩
            case measure => simp [intOf]; omega
        · have hqI : ¬ (q : Int) < (k : Int) := by omega
          have HA2 : Bx (∀ i j, i < j → j < k + 1 → befO (opAt ops (o.getD j 0)) (opAt ops (o.getD i 0)) = false) := ⟨fun i j hij hj => by
            by_cases e : j = k
            · subst e; rw [HPE.out]; exact HQA.out i (by omega)
            · exact HA.out i j hij (by omega)⟩
          go_wp2_with fail
          go_roundw
          case rel => exact ⟨k + 1, by omega, by go_num, HA2, HB⟩
          case measure => simp [intOf]; omega
    · have hkI : ¬ (k : Int) < (m : Int) := by omega
      have HF : Bx (ordT ops o = false) := ⟨ordT_iff.2 fun i j hij hj => HA.out i j hij (by rw [HLO.out] at hj; omega)⟩
      go_wp2_with fail
      go_ret
      exact ⟨by rw [HF.out]; rfl, HB.out⟩
end Go.Proofs.Ytbjeeefkbmdmfaa
