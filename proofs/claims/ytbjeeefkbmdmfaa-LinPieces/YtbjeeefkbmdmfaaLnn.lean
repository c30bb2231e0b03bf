/- The document's own: what is the same, what ends the search, what is tried. The document's own: what is tried. The document's own search in memory: where it was. No walk. The document's own search: what holds from step to step. No walk. -/
import Derived.Test.YtbjeeefkbmdmfaaLinMem
import Derived.BigQuiet
import Derived.Deep.CutRange
import Derived.Test.YtbjeeefkbmdmfaaLnd
import Derived.Test.YtbjeeefkbmdmfaaLnb
import Derived.Test.YtbjeeefkbmdmfaaLnc
namespace Go.Proofs.Ytbjeeefkbmdmfaa
open Go.RowKit
set_option linter.unusedVariables false

set_option maxRecDepth 100000 in
theorem two_new (w : World) (A B : Obj) : ((w.alloc A).alloc B).heap[w.heap.size]? = some A ∧ ((w.alloc A).alloc B).heap[w.heap.size + 1]? = some B ∧ Below w.heap.size w ((w.alloc A).alloc B) := by
  have hb1 : Below w.heap.size w (w.alloc A) := (Below.refl _ _).alloc (Nat.le_refl _) _
  have hs1 : (w.alloc A).heap.size = w.heap.size + 1 := by simp
  have hr1 := heap_alloc_new w A
  generalize w.alloc A = W at hb1 hs1 hr1 ⊢
  have hb2 : Below W.heap.size W (W.alloc B) := (Below.refl _ _).alloc (Nat.le_refl _) _
  have hr2 := heap_alloc_new W B
  rw [hs1] at hr2
  exact ⟨(hb2.block _ (by rw [hs1]; omega)).trans hr1, hr2, bstep hb1 hb2⟩
set_option maxHeartbeats 4000000 in
set_option maxRecDepth 100000 in
theorem same18_any (a1 a2 : Option Addr) (n c1 c2 : Nat) (I1 I2 : List Bool) (s0 s1 s2 s3 t0 t1 t2 t3 : Int) (w : World) (h1 : Bvs w a1 n c1 I1) (h2 : Bvs w a2 n c2 I2) :
    Calls Try.prog 65 #[.agg #[.slice a1 n c1, .int .i64 s0, .int .i64 s1, .int .i64 s2, .int .i64 s3], .agg #[.slice a2 n c2, .int .i64 t0, .int .i64 t1, .int .i64 t2, .int .i64 t3]] w fun e w' => e = .returned (.bool (decide ((⟨I1, [s0, s1, s2, s3]⟩ : Po) = ⟨I2, [t0, t1, t2, t3]⟩))) ∧ Below w.heap.size w w' := by
  have H1 := Bx.mk h1
  have H2 := Bx.mk h2
  have HL1 : Bx (I1.length = n) := ⟨h1.len_eq⟩
  have HL2 : Bx (I2.length = n) := ⟨h2.len_eq⟩
  have hn := Nat.le_trans h1.le_cap h1.cap_le
  unfold maxLen at hn
  obtain ⟨g1, HG1⟩ : ∃ g1, Bx (g1 = w.heap.size) := ⟨_, ⟨rfl⟩⟩
  obtain ⟨r1, r2, hb0⟩ := two_new w (.cells #[.slice a1 n c1, .int .i64 s0, .int .i64 s1, .int .i64 s2, .int .i64 s3] 88) (.cells #[.slice a2 n c2, .int .i64 t0, .int .i64 t1, .int .i64 t2, .int .i64 t3] 88)
  rw [← HG1.out] at r1 r2
  have HR1 := Bx.mk r1
  have HR2 := Bx.mk r2
  have HB0 := Bx.mk hb0
  have hcm := state_cmp s0 s1 s2 s3 t0 t1 t2 t3
  obtain ⟨R, HR⟩ : ∃ R, Bx (decide ((⟨I1, [s0, s1, s2, s3]⟩ : Po) = ⟨I2, [t0, t1, t2, t3]⟩) = R) := ⟨_, ⟨rfl⟩⟩
  rw [HR.out]
  clear h1 h2 r1 r2 hb0
  go_enter Try.func65, Try.ntmps65
  go_upto_region 1 with fail
  rw [← HG1.out]
  generalize (w.alloc (.cells #[.slice a1 n c1, .int .i64 s0, .int .i64 s1, .int .i64 s2, .int .i64 s3] 88)).alloc (.cells #[.slice a2 n c2, .int .i64 t0, .int .i64 t1, .int .i64 t2, .int .i64 t3] 88) = w0 at HR1 HR2 HB0 ⊢
  have x0 := cell_of_row _ g1 0 _ _ (0, 0) HR1.out
  have x1 := cell_of_row _ g1 1 _ _ (0, 0) HR1.out
  have x2 := cell_of_row _ g1 2 _ _ (0, 0) HR1.out
  have x3 := cell_of_row _ g1 3 _ _ (0, 0) HR1.out
  have x4 := cell_of_row _ g1 4 _ _ (0, 0) HR1.out
  have y0 := cell_of_row _ (g1 + 1) 0 _ _ (0, 0) HR2.out
  have y1 := cell_of_row _ (g1 + 1) 1 _ _ (0, 0) HR2.out
  have y2 := cell_of_row _ (g1 + 1) 2 _ _ (0, 0) HR2.out
  have y3 := cell_of_row _ (g1 + 1) 3 _ _ (0, 0) HR2.out
  have y4 := cell_of_row _ (g1 + 1) 4 _ _ (0, 0) HR2.out
  by_cases hst : [s0, s1, s2, s3] = [t0, t1, t2, t3]
  · have HST := Bx.mk hst
    rw [decide_eq_true hst] at hcm
    clear hst
    go_wp2_with fail
    go_loopw [5] (fun i wr => ∃ k : Nat, k ≤ n ∧ i = .int .i64 k ∧ Bx (∀ j, j < k → I1.getD j false = I2.getD j false) ∧ Bx (Below w0.heap.size w0 wr)) (fun i _ => n - (intOf i).toNat)
    case atStart => exact ⟨0, Nat.zero_le _, rfl, ⟨fun j hj => absurd hj (Nat.not_lt_zero _)⟩, ⟨Below.refl _ _⟩⟩
    case round =>
      clear x0 x1 x2 x3 x4 y0 y1 y2 y3 y4
      obtain ⟨k, hk, rfl, HA, HB⟩ := hrel
      have x0 := cell_of_row _ g1 0 _ _ (0, 0) (up_row _ _ HR1.out HB.out)
      have y0 := cell_of_row _ (g1 + 1) 0 _ _ (0, 0) (up_row _ _ HR2.out HB.out)
      by_cases hlt : k < n
      · have hkI : (k : Int) < (n : Int) := by omega
        obtain ⟨b1, o1, rfl, _, p0⟩ := ((H1.out.below HB0.out).below HB.out).bv k hlt
        obtain ⟨b2, o2, rfl, _, q0⟩ := ((H2.out.below HB0.out).below HB.out).bv k hlt
        by_cases he : I1.getD k false = I2.getD k false
        · have HA2 : Bx (∀ j, j < k + 1 → I1.getD j false = I2.getD j false) := ⟨fun j hj => by
            by_cases e : j = k
            · subst e; exact he
            · exact HA.out j (by omega)⟩
          rw [he] at p0
          generalize I2.getD k false = u at p0 q0
          have hu : (u != u) = false := by simp
          clear he
          go_wp2_with fail
          go_quiet (fail)
          go_wp2_with fail
          go_roundw
          case rel => exact ⟨k + 1, by omega, by go_num, HA2, ⟨below_drewN HB.out _⟩⟩
          case measure => simp [intOf]; omega
        · have HF : Bx (R = false) := ⟨by rw [← HR.out]; exact decide_eq_false (fun e => by cases e; exact he rfl)⟩
          generalize I1.getD k false = u at p0 he
          generalize I2.getD k false = v at q0 he
          have hu : (u = true ∧ v = false) ∨ (u = false ∧ v = true) := by cases u <;> cases v <;> simp at he ⊢
          clear he
          rcases hu with ⟨rfl, rfl⟩ | ⟨rfl, rfl⟩
          · go_wp2_with fail
            go_quiet (fail)
            go_wp2_with fail
            go_ret
            exact ⟨by rw [HF.out]; rfl, below_drewN (bstep HB0.out HB.out) _⟩
          · go_wp2_with fail
            go_quiet (fail)
            go_wp2_with fail
            go_ret
            exact ⟨by rw [HF.out]; rfl, below_drewN (bstep HB0.out HB.out) _⟩
      · have hkI : ¬ (k : Int) < (n : Int) := by omega
        have HF : Bx (R = true) := ⟨by
          rw [← HR.out]
          refine decide_eq_true ?_
          have hI : I1 = I2 := by
            refine List.ext_getElem? fun j => ?_
            by_cases hj : j < n
            · have := HA.out j (by omega)
              rw [List.getElem?_eq_getElem (by rw [HL1.out]; exact hj), List.getElem?_eq_getElem (by rw [HL2.out]; exact hj)]
              rw [List.getD_eq_getElem?_getD, List.getD_eq_getElem?_getD, List.getElem?_eq_getElem (by rw [HL1.out]; exact hj), List.getElem?_eq_getElem (by rw [HL2.out]; exact hj)] at this
              exact congrArg some this
            · rw [List.getElem?_eq_none (by rw [HL1.out]; omega), List.getElem?_eq_none (by rw [HL2.out]; omega)]
          rw [hI, HST.out]⟩
        go_wp2_with fail
        go_ret
        exact ⟨by rw [HF.out]; rfl, bstep HB0.out HB.out⟩
  · have HF : Bx (R = false) := ⟨by rw [← HR.out]; exact decide_eq_false (fun e => hst (Prod.mk.inj e).2)⟩
    rw [decide_eq_false hst] at hcm
    clear hst
    go_wp2_with fail
    go_ret
    exact ⟨by rw [HF.out]; rfl, HB0.out⟩
/-- the document's own search in memory -/
structure Sx (w : World) (g : Nat) (aL : Option Addr) (nL cL : Nat) (fu bu : Int) (aO : Option Addr) (n cO : Nat) (vW vO : Value) (t : Nat) : Prop where
  row : w.heap[g]? = some (.cells #[.slice aL nL cL, .int .i64 fu, .int .i64 bu, .slice aO n cO, vW, .int .i64 0, vO, .int .i64 t] 84 (0, 0))
section
variable {w w' : World} {g : Nat} {aL : Option Addr} {nL cL : Nat} {fu bu : Int} {aO : Option Addr} {n cO : Nat} {vW vO : Value} {t : Nat}
set_option maxRecDepth 100000 in
theorem Sx.lt (h : Sx w g aL nL cL fu bu aO n cO vW vO t) : g < w.heap.size := (Array.getElem?_eq_some_iff.1 h.row).1
set_option maxRecDepth 100000 in
theorem Sx.below (h : Sx w g aL nL cL fu bu aO n cO vW vO t) (hb : Below w.heap.size w w') : Sx w' g aL nL cL fu bu aO n cO vW vO t := ⟨up_row _ _ h.row hb⟩
set_option maxRecDepth 100000 in
theorem Sx.c3 (h : Sx w g aL nL cL fu bu aO n cO vW vO t) : w.cell? ⟨g, 3, none⟩ = some (.slice aO n cO) := cell_of_row _ g 3 _ _ (0, 0) h.row
end
set_option maxHeartbeats 4000000 in
set_option maxRecDepth 100000 in
theorem full18_any (g : Nat) (aL : Option Addr) (nL cL : Nat) (fu bu : Int) (aO : Option Addr) (n cO : Nat) (vW vO : Value) (t : Nat) (a : Option Addr) (c : Nat) (I : List Bool) (s0 s1 s2 s3 : Int) (l : List Ic) (ops : List Opr) (w : World) (hS : Sx w g aL nL cL fu bu aO n cO vW vO t) (hO : Ors w aO n cO ops) (hI : Bvs w a n c I) :
    Calls Try.prog 62 #[.pointer (some ⟨g, 0, none⟩), .agg #[.slice a n c, .int .i64 s0, .int .i64 s1, .int .i64 s2, .int .i64 s3]] w fun e w' => e = .returned (.bool ((srO l fu ops).full ⟨I, [s0, s1, s2, s3]⟩)) ∧ Below w.heap.size w w' := by
  have HS := Bx.mk hS
  have HO := Bx.mk hO
  have HI := Bx.mk hI
  have HLEN : Bx (ops.length = n) := ⟨hO.len_eq⟩
  have hn := Nat.le_trans hO.le_cap hO.cap_le
  unfold maxLen at hn
  obtain ⟨R, HR⟩ : ∃ R, Bx ((srO l fu ops).full ⟨I, [s0, s1, s2, s3]⟩ = R) := ⟨_, ⟨rfl⟩⟩
  rw [HR.out]
  obtain ⟨g1, HG1⟩ : ∃ g1, Bx (g1 = w.heap.size) := ⟨_, ⟨rfl⟩⟩
  have hr1 := heap_alloc_new w (.cells #[.slice a n c, .int .i64 s0, .int .i64 s1, .int .i64 s2, .int .i64 s3] 88)
  rw [← HG1.out] at hr1
  have HR1 := Bx.mk hr1
  have HB0 : Bx (Below w.heap.size w (w.alloc (.cells #[.slice a n c, .int .i64 s0, .int .i64 s1, .int .i64 s2, .int .i64 s3] 88))) := ⟨(Below.refl _ _).alloc (Nat.le_refl _) _⟩
  clear hS hO hI hr1
  go_enter Try.func62, Try.ntmps62
  go_wp2_with fail
  rw [← HG1.out]
  generalize w.alloc (.cells #[.slice a n c, .int .i64 s0, .int .i64 s1, .int .i64 s2, .int .i64 s3] 88) = w0 at HR1 HB0 ⊢
  go_loopw [5] (fun i wr => ∃ k : Nat, k ≤ n ∧ i = .int .i64 k ∧ Bx (∀ j, j < k → (opN ops j).d = true → I.getD j false = true) ∧ Bx (Below w0.heap.size w0 wr)) (fun i _ => n - (intOf i).toNat)
  case atStart => exact ⟨0, Nat.zero_le _, rfl, ⟨fun j hj => absurd hj (Nat.not_lt_zero _)⟩, ⟨Below.refl _ _⟩⟩
  case round =>
    obtain ⟨k, hk, rfl, HA, HB⟩ := hrel
    have x0 := cell_of_row _ g1 0 _ _ (0, 0) (up_row _ _ HR1.out HB.out)
    have z3 := ((HS.out.below HB0.out).below HB.out).c3
    by_cases hlt : k < n
    · have hkI : (k : Int) < (n : Int) := by omega
      have HKL : Bx (k < ops.length) := ⟨by rw [HLEN.out]; exact hlt⟩
      obtain ⟨b1, o1, rfl, _, p0⟩ := ((HI.out.below HB0.out).below HB.out).bv k hlt
      obtain ⟨b2, o2, rfl, _, _⟩ := HO.out.spot (by omega)
      obtain ⟨X, HXE⟩ : ∃ X, Bx (ops.getD k op0 = X) := ⟨_, ⟨rfl⟩⟩
      obtain ⟨_, _, _, y3, _, _, _⟩ := or_spot ((HO.out.below HB0.out).below HB.out) k hlt HXE.out
      have HIN : Bx (inP ⟨I, [s0, s1, s2, s3]⟩ k = I.getD k false) := ⟨rfl⟩
      have HNX : Bx (∀ u v, X.d = u → I.getD k false = v → (u = true → v = true) → ∀ j, j < k + 1 → (opN ops j).d = true → I.getD j false = true) := ⟨fun u v hu hv h j hj hd => by
        by_cases e : j = k
        · subst e; unfold opN at hd; rw [HXE.out, hu] at hd; rw [hv]; exact h hd
        · exact HA.out j (by omega) hd⟩
      have HBD : Bx (X.d = true → I.getD k false = false → R = false) := ⟨fun h1 h2 => by
        rw [← HR.out]
        cases e : (srO l fu ops).full ⟨I, [s0, s1, s2, s3]⟩ with
        | false => rfl
        | true => have := full_iff.1 e k HKL.out (by unfold opN; rw [HXE.out]; exact h1); rw [HIN.out, h2] at this; cases this⟩
      generalize I.getD k false = v at p0 HNX HBD
      generalize hu : X.d = u at y3 HNX HBD
      clear hu
      cases u with
      | false =>
        have HA2 := Bx.mk (HNX.out _ _ rfl rfl (fun h => by cases h))
        go_wp2_with fail
        go_roundw
        case rel => exact ⟨k + 1, by omega, by go_num, HA2, HB⟩
        case measure => simp [intOf]; omega
      | true =>
        cases v with
        | true =>
          have HA2 := Bx.mk (HNX.out _ _ rfl rfl (fun _ => rfl))
          go_wp2_with fail
          go_roundw
          case rel => exact ⟨k + 1, by omega, by go_num, HA2, HB⟩
          case measure => simp [intOf]; omega
        | false =>
          have HF := Bx.mk (HBD.out rfl rfl)
          go_wp2_with fail
          go_ret
          exact ⟨by rw [HF.out]; rfl, bstep HB0.out HB.out⟩
    · have hkI : ¬ (k : Int) < (n : Int) := by omega
      have HF : Bx (R = true) := ⟨by rw [← HR.out]; exact full_iff.2 fun i hi hd => HA.out i (by rw [HLEN.out] at hi; omega) hd⟩
      go_wp2_with fail
      go_ret
      exact ⟨by rw [HF.out]; rfl, bstep HB0.out HB.out⟩
end Go.Proofs.Ytbjeeefkbmdmfaa
namespace Go.Proofs.Ytbjeeefkbmdmfaa
open Go.RowKit
set_option linter.unusedVariables false

set_option maxHeartbeats 4000000 in
set_option maxRecDepth 100000 in
theorem free18_any (g : Nat) (aL : Option Addr) (nL cL : Nat) (fu bu : Int) (aO : Option Addr) (n cO : Nat) (vW vO : Value) (t : Nat) (a : Option Addr) (c : Nat) (I : List Bool) (s0 s1 s2 s3 : Int) (l : List Ic) (ops : List Opr) (i : Nat) (hin : i < n) (w : World) (hS : Sx w g aL nL cL fu bu aO n cO vW vO t) (hO : Ors w aO n cO ops) (hI : Bvs w a n c I) :
    Calls Try.prog 63 #[.pointer (some ⟨g, 0, none⟩), .agg #[.slice a n c, .int .i64 s0, .int .i64 s1, .int .i64 s2, .int .i64 s3], .int .i64 i] w fun e w' => e = .returned (.bool ((srO l fu ops).free ⟨I, [s0, s1, s2, s3]⟩ i)) ∧ Below w.heap.size w w' := by
  have HS := Bx.mk hS
  have HO := Bx.mk hO
  have HI := Bx.mk hI
  have HLEN : Bx (ops.length = n) := ⟨hO.len_eq⟩
  have hn := Nat.le_trans hO.le_cap hO.cap_le
  unfold maxLen at hn
  have hiI : (i : Int) < (n : Int) := by omega
  have HIO : Bx (i < ops.length) := ⟨by rw [HLEN.out]; exact hin⟩
  obtain ⟨R, HR⟩ : ∃ R, Bx ((srO l fu ops).free ⟨I, [s0, s1, s2, s3]⟩ i = R) := ⟨_, ⟨rfl⟩⟩
  rw [HR.out]
  obtain ⟨g1, HG1⟩ : ∃ g1, Bx (g1 = w.heap.size) := ⟨_, ⟨rfl⟩⟩
  have hr1 := heap_alloc_new w (.cells #[.slice a n c, .int .i64 s0, .int .i64 s1, .int .i64 s2, .int .i64 s3] 88)
  rw [← HG1.out] at hr1
  have HR1 := Bx.mk hr1
  have HB0 : Bx (Below w.heap.size w (w.alloc (.cells #[.slice a n c, .int .i64 s0, .int .i64 s1, .int .i64 s2, .int .i64 s3] 88))) := ⟨(Below.refl _ _).alloc (Nat.le_refl _) _⟩
  obtain ⟨b1, o1, rfl, _, _⟩ := hI.spot (by omega)
  obtain ⟨b2, o2, rfl, _, _⟩ := hO.spot (by omega)
  clear hS hO hI hr1
  go_enter Try.func63, Try.ntmps63
  go_upto_region 1 with fail
  rw [← HG1.out]
  generalize w.alloc (.cells #[.slice (some ⟨b1, o1, none⟩) n c, .int .i64 s0, .int .i64 s1, .int .i64 s2, .int .i64 s3] 88) = w0 at HR1 HB0 ⊢
  have x0 := cell_of_row _ g1 0 _ _ (0, 0) HR1.out
  have p0 := bv_cell (HI.out.below HB0.out) i hin rfl
  cases hIi : I.getD i false with
  | true =>
    rw [hIi] at p0
    have HF : Bx (R = false) := ⟨by
      rw [← HR.out]
      cases e : (srO l fu ops).free ⟨I, [s0, s1, s2, s3]⟩ i with
      | false => rfl
      | true => have := (free_iff.1 e).2.1; unfold inP at this; rw [hIi] at this; cases this⟩
    clear hIi
    go_wp2_with fail
    go_ret
    exact ⟨by rw [HF.out]; rfl, HB0.out⟩
  | false =>
    rw [hIi] at p0
    have HII := Bx.mk hIi
    clear hIi
    obtain ⟨Y, HYE⟩ : ∃ Y, Bx (ops.getD i op0 = Y) := ⟨_, ⟨rfl⟩⟩
    go_wp2_with fail
    go_loopw [7] (fun i wr => ∃ k : Nat, k ≤ n ∧ i = .int .i64 k ∧ Bx (∀ j, j < k → befO (opN ops j) Y = true → I.getD j false = true) ∧ Bx (Below w0.heap.size w0 wr)) (fun i _ => n - (intOf i).toNat)
    case atStart => exact ⟨0, Nat.zero_le _, rfl, ⟨fun j hj => absurd hj (Nat.not_lt_zero _)⟩, ⟨Below.refl _ _⟩⟩
    case round =>
      clear x0 p0
      obtain ⟨k, hk0, rfl, HA, HB⟩ := hrel
      have x0 := cell_of_row _ g1 0 _ _ (0, 0) (up_row _ _ HR1.out HB.out)
      have z3 := ((HS.out.below HB0.out).below HB.out).c3
      by_cases hlt : k < n
      · have hkI : (k : Int) < (n : Int) := by omega
        have HKL : Bx (k < ops.length) := ⟨by rw [HLEN.out]; exact hlt⟩
        have p0 := bv_cell ((HI.out.below HB0.out).below HB.out) k hlt rfl
        cases hIk : I.getD k false with
        | true =>
          rw [hIk] at p0
          have HA2 : Bx (∀ j, j < k + 1 → befO (opN ops j) Y = true → I.getD j false = true) := ⟨fun j hj hd => by
            by_cases e : j = k
            · subst e; exact hIk
            · exact HA.out j (by omega) hd⟩
          clear hIk
          go_wp2_with fail
          go_quiet (fail)
          go_wp2_with fail
          go_roundw
          case rel => exact ⟨k + 1, by omega, by go_num, HA2, ⟨below_drewN HB.out _⟩⟩
          case measure => simp [intOf]; omega
        | false =>
          have HIK := Bx.mk hIk
          obtain ⟨X, HXE⟩ : ∃ X, Bx (ops.getD k op0 = X) := ⟨_, ⟨rfl⟩⟩
          obtain ⟨bt, HBF⟩ : ∃ bt, Bx (befO X Y = bt) := ⟨_, ⟨rfl⟩⟩
          obtain ⟨Qt, HQ0⟩ : ∃ Qt : World → Prop, Bx (Qt = fun W => (W.heap[g1]? = some (.cells #[.slice (some ⟨b1, o1, none⟩) n c, .int .i64 s0, .int .i64 s1, .int .i64 s2, .int .i64 s3] 88 (0, 0)) ∧ Bvs W (some ⟨b1, o1, none⟩) n c I) ∧ Sx W g aL nL cL fu bu (some ⟨b2, o2, none⟩) n cO vW vO t ∧ Ors W (some ⟨b2, o2, none⟩) n cO ops) := ⟨_, ⟨rfl⟩⟩
          have HQT : Bx (∀ W, Qt W → (W.heap[g1]? = some (.cells #[.slice (some ⟨b1, o1, none⟩) n c, .int .i64 s0, .int .i64 s1, .int .i64 s2, .int .i64 s3] 88 (0, 0)) ∧ Bvs W (some ⟨b1, o1, none⟩) n c I) ∧ Sx W g aL nL cL fu bu (some ⟨b2, o2, none⟩) n cO vW vO t ∧ Ors W (some ⟨b2, o2, none⟩) n cO ops) := ⟨fun W h => by rw [HQ0.out] at h; exact h⟩
          have HHK : Bx (HX Qt w0 wr.drew) := ⟨⟨HB.out.drew, by
            rw [HQ0.out]
            exact fun W W' h hb => ⟨⟨up_row _ _ h.1.1 hb, h.1.2.below hb⟩, h.2.1.below hb, h.2.2.below hb⟩, by
            rw [HQ0.out]
            exact ⟨⟨up_row _ _ HR1.out HB.out.drew, (HI.out.below HB0.out).below HB.out.drew⟩, (HS.out.below HB0.out).below HB.out.drew, (HO.out.below HB0.out).below HB.out.drew⟩⟩⟩
          clear HQ0 hIk
          rw [HIK.out] at p0
          go_upto_region 6 with fail
          have hk := HHK.out
          clear HHK HB x0 z3 p0
          refine wp_region_held_drew (S := fun W => HX Qt w0 W) (by kernel_rfl) hk (fun _ => ?_)
          generalize wr.drew = wk at hk ⊢
          refine wpAnyH_take (i := 0) (oi := { dst := some 22, op := Op.fieldAddr 88 (Operand.tmp 4) 0, type := 0, pos := "ref.go:74", after := #[], guard := none }) (v := ?vrlf61) rfl (by kernel_rfl) (by kernel_rfl) (by kernel_rfl) (fun _ _ _ h => h) (Or.inl ⟨by rfl, ?yrlf61⟩) hk ?rrlf61
          case yrlf61 => (intro w hSw; (try dsimp only at hSw); go_simp; first | done | with_reducible rfl)
          simp only [Act.put, List.setIfInBounds_toArray, List.set_cons_zero, List.set_cons_succ]
          refine wpAnyH_take (i := 1) (oi := { dst := some 23, op := Op.load 86 (Operand.tmp 22), type := 86, pos := "ref.go:74", after := #[{ on := 0, ground := Ground.data }], guard := none }) (v := ?vrlf62) rfl (by kernel_rfl) (by kernel_rfl) (by kernel_rfl) (fun _ _ _ h => h) (Or.inl ⟨by rfl, ?yrlf62⟩) hk ?rrlf62
          case yrlf62 => (intro w hSw; have hcw := cell_of_row _ g1 0 _ _ (0, 0) (HQT.out _ hSw.q).1.1; clear hSw; go_simp; first | done | with_reducible rfl)
          simp only [Act.put, List.setIfInBounds_toArray, List.set_cons_zero, List.set_cons_succ]
          refine wpAnyH_take (i := 2) (oi := { dst := some 24, op := Op.move (Operand.tmp 7), type := 3, pos := "ref.go:74", after := #[], guard := none }) (v := ?vrlf63) rfl (by kernel_rfl) (by kernel_rfl) (by kernel_rfl) (fun _ _ _ h => h) (Or.inl ⟨by rfl, ?yrlf63⟩) hk ?rrlf63
          case yrlf63 => (intro w hSw; (try dsimp only at hSw); go_simp; first | done | with_reducible rfl)
          simp only [Act.put, List.setIfInBounds_toArray, List.set_cons_zero, List.set_cons_succ]
          refine wpAnyH_take (i := 3) (oi := { dst := some 25, op := Op.indexAddr 86 (Operand.tmp 23) (Operand.tmp 24), type := 0, pos := "ref.go:74", after := #[{ on := 1, ground := Ground.data }, { on := 2, ground := Ground.data }], guard := none }) (v := ?vrlf64) rfl (by kernel_rfl) (by kernel_rfl) (by kernel_rfl) (fun _ _ _ h => h) (Or.inl ⟨by rfl, ?yrlf64⟩) hk ?rrlf64
          case yrlf64 => (intro w hSw; (try dsimp only at hSw); go_simp; first | done | with_reducible rfl)
          simp only [Act.put, List.setIfInBounds_toArray, List.set_cons_zero, List.set_cons_succ]
          refine wpAnyH_take (i := 4) (oi := { dst := some 26, op := Op.load 4 (Operand.tmp 25), type := 4, pos := "ref.go:74", after := #[{ on := 3, ground := Ground.data }], guard := none }) (v := ?vrlf65) rfl (by kernel_rfl) (by kernel_rfl) (by kernel_rfl) (fun _ _ _ h => h) (Or.inl ⟨by rfl, ?yrlf65⟩) hk ?rrlf65
          case yrlf65 => (intro w hSw; have hcw := bv_cell (HQT.out _ hSw.q).1.2 k hlt HIK.out; clear hSw; go_simp; first | done | with_reducible rfl)
          simp only [Act.put, List.setIfInBounds_toArray, List.set_cons_zero, List.set_cons_succ]
          refine wpAnyH_take (i := 5) (oi := { dst := some 27, op := Op.unOp UnOp.not 4 (Operand.tmp 26), type := 4, pos := "ref.go:74", after := #[{ on := 4, ground := Ground.data }], guard := none }) (v := ?vrlf66) rfl (by kernel_rfl) (by kernel_rfl) (by kernel_rfl) (fun _ _ _ h => h) (Or.inl ⟨by rfl, ?yrlf66⟩) hk ?rrlf66
          case yrlf66 => (intro w hSw; (try dsimp only at hSw); go_simp; first | done | with_reducible rfl)
          simp only [Act.put, List.setIfInBounds_toArray, List.set_cons_zero, List.set_cons_succ]
          refine wpAnyH_take (i := 6) (oi := { dst := some 28, op := Op.move (Operand.tmp 27), type := 4, pos := "ref.go:74", after := #[{ on := 5, ground := Ground.data }], guard := none }) (v := ?vrlf67) rfl (by kernel_rfl) (by kernel_rfl) (by kernel_rfl) (fun _ _ _ h => h) (Or.inl ⟨by rfl, ?yrlf67⟩) hk ?rrlf67
          case yrlf67 => (intro w hSw; (try dsimp only at hSw); go_simp; first | done | with_reducible rfl)
          simp only [Act.put, List.setIfInBounds_toArray, List.set_cons_zero, List.set_cons_succ]
          refine wpAnyH_take (i := 7) (oi := { dst := some 29, op := Op.move (Operand.tmp 0), type := 81, pos := "ref.go:74", after := #[{ on := 6, ground := Ground.guard }], guard := some (6, true) }) (v := ?vrlf68) rfl (by kernel_rfl) (by kernel_rfl) (by kernel_rfl) (fun _ _ _ h => h) (Or.inl ⟨by rfl, ?yrlf68⟩) hk ?rrlf68
          case yrlf68 => (intro w hSw; (try dsimp only at hSw); go_simp; first | done | with_reducible rfl)
          simp only [Act.put, List.setIfInBounds_toArray, List.set_cons_zero, List.set_cons_succ]
          refine wpAnyH_take (i := 8) (oi := { dst := some 30, op := Op.nilCheck (Operand.tmp 29), type := 0, pos := "ref.go:74", after := #[{ on := 7, ground := Ground.data }, { on := 6, ground := Ground.guard }], guard := some (6, true) }) (v := ?vrlf69) rfl (by kernel_rfl) (by kernel_rfl) (by kernel_rfl) (fun _ _ _ h => h) (Or.inl ⟨by rfl, ?yrlf69⟩) hk ?rrlf69
          case yrlf69 => (intro w hSw; (try dsimp only at hSw); go_simp; first | done | with_reducible rfl)
          simp only [Act.put, List.setIfInBounds_toArray, List.set_cons_zero, List.set_cons_succ]
          refine wpAnyH_take (i := 9) (oi := { dst := some 31, op := Op.fieldAddr 84 (Operand.tmp 30) 3, type := 0, pos := "ref.go:74", after := #[{ on := 8, ground := Ground.data }, { on := 6, ground := Ground.guard }], guard := some (6, true) }) (v := ?vrlf610) rfl (by kernel_rfl) (by kernel_rfl) (by kernel_rfl) (fun _ _ _ h => h) (Or.inl ⟨by rfl, ?yrlf610⟩) hk ?rrlf610
          case yrlf610 => (intro w hSw; (try dsimp only at hSw); go_simp; first | done | with_reducible rfl)
          simp only [Act.put, List.setIfInBounds_toArray, List.set_cons_zero, List.set_cons_succ]
          refine wpAnyH_take (i := 10) (oi := { dst := some 32, op := Op.load 23 (Operand.tmp 31), type := 23, pos := "ref.go:74", after := #[{ on := 9, ground := Ground.data }, { on := 6, ground := Ground.guard }], guard := some (6, true) }) (v := ?vrlf611) rfl (by kernel_rfl) (by kernel_rfl) (by kernel_rfl) (fun _ _ _ h => h) (Or.inl ⟨by rfl, ?yrlf611⟩) hk ?rrlf611
          case yrlf611 => (intro w hSw; have hcw := (HQT.out _ hSw.q).2.1.c3; clear hSw; go_simp; first | done | with_reducible rfl)
          simp only [Act.put, List.setIfInBounds_toArray, List.set_cons_zero, List.set_cons_succ]
          refine wpAnyH_take (i := 11) (oi := { dst := some 33, op := Op.move (Operand.tmp 7), type := 3, pos := "ref.go:74", after := #[{ on := 6, ground := Ground.guard }], guard := some (6, true) }) (v := ?vrlf612) rfl (by kernel_rfl) (by kernel_rfl) (by kernel_rfl) (fun _ _ _ h => h) (Or.inl ⟨by rfl, ?yrlf612⟩) hk ?rrlf612
          case yrlf612 => (intro w hSw; (try dsimp only at hSw); go_simp; first | done | with_reducible rfl)
          simp only [Act.put, List.setIfInBounds_toArray, List.set_cons_zero, List.set_cons_succ]
          refine wpAnyH_take (i := 12) (oi := { dst := some 34, op := Op.indexAddr 23 (Operand.tmp 32) (Operand.tmp 33), type := 0, pos := "ref.go:74", after := #[{ on := 10, ground := Ground.data }, { on := 11, ground := Ground.data }, { on := 6, ground := Ground.guard }], guard := some (6, true) }) (v := ?vrlf613) rfl (by kernel_rfl) (by kernel_rfl) (by kernel_rfl) (fun _ _ _ h => h) (Or.inl ⟨by rfl, ?yrlf613⟩) hk ?rrlf613
          case yrlf613 => (intro w hSw; (try dsimp only at hSw); go_simp; first | done | with_reducible rfl)
          simp only [Act.put, List.setIfInBounds_toArray, List.set_cons_zero, List.set_cons_succ]
          refine wpAnyH_take (i := 13) (oi := { dst := some 35, op := Op.load 35 (Operand.tmp 34), type := 35, pos := "ref.go:74", after := #[{ on := 12, ground := Ground.data }, { on := 6, ground := Ground.guard }], guard := some (6, true) }) (v := .agg #[.int .i64 X.c, .int .i64 X.o, .int .i64 X.a, .bool X.d, .int .i64 X.r, .int .i64 X.f, .int .i64 X.t]) rfl (by kernel_rfl) (by kernel_rfl) (by kernel_rfl) (fun _ _ _ h => h) (Or.inl ⟨by rfl, ?yrlf614⟩) hk ?rrlf614
          case yrlf614 => (intro w hSw; obtain ⟨q0, q1, q2, q3, q4, q5, q6⟩ := or_spot (HQT.out _ hSw.q).2.2 k hlt HXE.out; clear hSw; go_simp; first | done | with_reducible rfl)
          simp only [Act.put, List.setIfInBounds_toArray, List.set_cons_zero, List.set_cons_succ]
          refine wpAnyH_take (i := 14) (oi := { dst := some 36, op := Op.move (Operand.tmp 0), type := 81, pos := "ref.go:74", after := #[{ on := 6, ground := Ground.guard }], guard := some (6, true) }) (v := ?vrlf615) rfl (by kernel_rfl) (by kernel_rfl) (by kernel_rfl) (fun _ _ _ h => h) (Or.inl ⟨by rfl, ?yrlf615⟩) hk ?rrlf615
          case yrlf615 => (intro w hSw; (try dsimp only at hSw); go_simp; first | done | with_reducible rfl)
          simp only [Act.put, List.setIfInBounds_toArray, List.set_cons_zero, List.set_cons_succ]
          refine wpAnyH_take (i := 15) (oi := { dst := some 37, op := Op.nilCheck (Operand.tmp 36), type := 0, pos := "ref.go:74", after := #[{ on := 14, ground := Ground.data }, { on := 6, ground := Ground.guard }], guard := some (6, true) }) (v := ?vrlf616) rfl (by kernel_rfl) (by kernel_rfl) (by kernel_rfl) (fun _ _ _ h => h) (Or.inl ⟨by rfl, ?yrlf616⟩) hk ?rrlf616
          case yrlf616 => (intro w hSw; (try dsimp only at hSw); go_simp; first | done | with_reducible rfl)
          simp only [Act.put, List.setIfInBounds_toArray, List.set_cons_zero, List.set_cons_succ]
          refine wpAnyH_take (i := 16) (oi := { dst := some 38, op := Op.fieldAddr 84 (Operand.tmp 37) 3, type := 0, pos := "ref.go:74", after := #[{ on := 15, ground := Ground.data }, { on := 6, ground := Ground.guard }], guard := some (6, true) }) (v := ?vrlf617) rfl (by kernel_rfl) (by kernel_rfl) (by kernel_rfl) (fun _ _ _ h => h) (Or.inl ⟨by rfl, ?yrlf617⟩) hk ?rrlf617
          case yrlf617 => (intro w hSw; (try dsimp only at hSw); go_simp; first | done | with_reducible rfl)
          simp only [Act.put, List.setIfInBounds_toArray, List.set_cons_zero, List.set_cons_succ]
          refine wpAnyH_take (i := 17) (oi := { dst := some 39, op := Op.load 23 (Operand.tmp 38), type := 23, pos := "ref.go:74", after := #[{ on := 16, ground := Ground.data }, { on := 6, ground := Ground.guard }], guard := some (6, true) }) (v := ?vrlf618) rfl (by kernel_rfl) (by kernel_rfl) (by kernel_rfl) (fun _ _ _ h => h) (Or.inl ⟨by rfl, ?yrlf618⟩) hk ?rrlf618
          case yrlf618 => (intro w hSw; have hcw := (HQT.out _ hSw.q).2.1.c3; clear hSw; go_simp; first | done | with_reducible rfl)
          simp only [Act.put, List.setIfInBounds_toArray, List.set_cons_zero, List.set_cons_succ]
          refine wpAnyH_take (i := 18) (oi := { dst := some 40, op := Op.move (Operand.tmp 2), type := 3, pos := "ref.go:74", after := #[{ on := 6, ground := Ground.guard }], guard := some (6, true) }) (v := ?vrlf619) rfl (by kernel_rfl) (by kernel_rfl) (by kernel_rfl) (fun _ _ _ h => h) (Or.inl ⟨by rfl, ?yrlf619⟩) hk ?rrlf619
          case yrlf619 => (intro w hSw; (try dsimp only at hSw); go_simp; first | done | with_reducible rfl)
          simp only [Act.put, List.setIfInBounds_toArray, List.set_cons_zero, List.set_cons_succ]
          refine wpAnyH_take (i := 19) (oi := { dst := some 41, op := Op.indexAddr 23 (Operand.tmp 39) (Operand.tmp 40), type := 0, pos := "ref.go:74", after := #[{ on := 17, ground := Ground.data }, { on := 18, ground := Ground.data }, { on := 6, ground := Ground.guard }], guard := some (6, true) }) (v := ?vrlf620) rfl (by kernel_rfl) (by kernel_rfl) (by kernel_rfl) (fun _ _ _ h => h) (Or.inl ⟨by rfl, ?yrlf620⟩) hk ?rrlf620
          case yrlf620 => (intro w hSw; (try dsimp only at hSw); go_simp; first | done | with_reducible rfl)
          simp only [Act.put, List.setIfInBounds_toArray, List.set_cons_zero, List.set_cons_succ]
          refine wpAnyH_take (i := 20) (oi := { dst := some 42, op := Op.load 35 (Operand.tmp 41), type := 35, pos := "ref.go:74", after := #[{ on := 19, ground := Ground.data }, { on := 6, ground := Ground.guard }], guard := some (6, true) }) (v := .agg #[.int .i64 Y.c, .int .i64 Y.o, .int .i64 Y.a, .bool Y.d, .int .i64 Y.r, .int .i64 Y.f, .int .i64 Y.t]) rfl (by kernel_rfl) (by kernel_rfl) (by kernel_rfl) (fun _ _ _ h => h) (Or.inl ⟨by rfl, ?yrlf621⟩) hk ?rrlf621
          case yrlf621 => (intro w hSw; obtain ⟨q0, q1, q2, q3, q4, q5, q6⟩ := or_spot (HQT.out _ hSw.q).2.2 i hin HYE.out; clear hSw; go_simp; first | done | with_reducible rfl)
          simp only [Act.put, List.setIfInBounds_toArray, List.set_cons_zero, List.set_cons_succ]
          refine wpAnyH_ready (rs := [21]) (by decide +kernel) (by simp) ?_
          refine AllReadyH.cons (o := { dst := some 43, op := Op.call { callee := Callee.value (Operand.func 37), args := #[Operand.tmp 35, Operand.tmp 42], argTypes := #[35, 35] }, type := 4, pos := "ref.go:74", after := #[{ on := 13, ground := Ground.data }, { on := 20, ground := Ground.data }, { on := 6, ground := Ground.chain }, { on := 6, ground := Ground.guard }], guard := some (6, true) }) rfl (fun K hK => ?_) AllReadyH.nil
          go_simp
          refine (refbefore_any X Y _).mono ?_
          rintro e1 wk ⟨rfl, hb1⟩
          rw [HBF.out]
          replace hk := hk.step hb1
          clear hb1
          refine hK.out _ _ hk (fun _ => ?_)
          clear hK K
          try simp only [Act.put, List.setIfInBounds_toArray, List.set_cons_zero, List.set_cons_succ]
          refine wpAnyH_take (i := 22) (oi := { dst := some 44, op := Op.pick (Operand.tmp 28) (Operand.tmp 43) (Operand.const (Value.bool false)), type := 4, pos := "ref.go:74", after := #[{ on := 6, ground := Ground.data }, { on := 21, ground := Ground.data }], guard := none }) (v := ?vrlf622) rfl (by kernel_rfl) (by kernel_rfl) (by kernel_rfl) (fun _ _ _ h => h) (Or.inl ⟨by rfl, ?yrlf622⟩) hk ?rrlf622
          case yrlf622 => (intro w hSw; (try dsimp only at hSw); go_simp; first | done | with_reducible rfl)
          simp only [Act.put, List.setIfInBounds_toArray, List.set_cons_zero, List.set_cons_succ]
          refine wpAnyH_done (by decide +kernel) ?_ _
          have HB8 := Bx.mk hk.low
          clear hk
          cases bt with
          | true =>
            have HF : Bx (R = false) := ⟨by
              rw [← HR.out]
              cases e : (srO l fu ops).free ⟨I, [s0, s1, s2, s3]⟩ i with
              | false => rfl
              | true =>
                have := (free_iff.1 e).2.2 k HKL.out (by unfold opN; rw [HXE.out, HYE.out]; exact HBF.out)
                unfold inP at this; rw [HIK.out] at this; cases this⟩
            go_wp2_with fail
            go_ret
            exact ⟨by rw [HF.out]; rfl, bstep HB0.out HB8.out⟩
          | false =>
            have HA2 : Bx (∀ j, j < k + 1 → befO (opN ops j) Y = true → I.getD j false = true) := ⟨fun j hj hd => by
              by_cases e : j = k
              · subst e; unfold opN at hd; rw [HXE.out, HBF.out] at hd; cases hd
              · exact HA.out j (by omega) hd⟩
            go_wp2_with fail
            go_roundw
            case rel => exact ⟨k + 1, by omega, by go_num, HA2, HB8⟩
            case measure => simp [intOf]; omega
      · have hkI : ¬ (k : Int) < (n : Int) := by omega
        have HF : Bx (R = true) := ⟨by
          rw [← HR.out]
          exact free_iff.2 ⟨HIO.out, HII.out, fun j hj hb => HA.out j (by rw [HLEN.out] at hj; omega) (by unfold opN at hb ⊢; rw [HYE.out] at hb; exact hb)⟩⟩
        go_wp2_with fail
        go_ret
        exact ⟨by rw [HF.out]; rfl, bstep HB0.out HB.out⟩
end Go.Proofs.Ytbjeeefkbmdmfaa
namespace Go.Proofs.Ytbjeeefkbmdmfaa
open Go.RowKit
set_option linter.unusedVariables false

/-- a position, and where its bools lie -/
structure Pl where
  a : Option Addr
  c : Nat
  p : Po
def plC (n : Nat) (x : Pl) : List Value := [.slice x.a n x.c, .int .i64 (x.p.S.getD 0 0), .int .i64 (x.p.S.getD 1 0), .int .i64 (x.p.S.getD 2 0), .int .i64 (x.p.S.getD 3 0)]
set_option maxRecDepth 100000 in
theorem plC_len (n : Nat) (x : Pl) : (plC n x).length = 5 := rfl
set_option maxRecDepth 100000 in
theorem plC_one (n : Nat) (x : Pl) : ∀ u ∈ plC n x, u.oneCell' = true := by intro u hu; simp [plC] at hu; rcases hu with rfl | rfl | rfl | rfl | rfl <;> rfl
/-- the search, and where it was -/
structure Se (N : Nat) (w : World) (g : Nat) (aL : Option Addr) (nL cL : Nat) (fu bu : Int) (aO : Option Addr) (n cO : Nat) (vW vO : Value) (Ws : List Pl) (t : Nat) : Prop where
  sx : Sx w g aL nL cL fu bu aO n cO vW vO t
  gN : N ≤ g
  own : w.ownsRow N 88 5 vW Ws.length (Ws.flatMap (plC n))
  ins : ∀ x ∈ Ws, w.ownsRow N 4 1 (.slice x.a n x.c) n (x.p.I.flatMap bvC) ∧ x.p.I.length = n ∧ x.p.S.length = 4
/-- what may be changed -/
def ownS (g : Nat) (vW : Value) : Nat → Prop := fun j => j = g ∨ vW.ownBlock = some j
section
variable {N : Nat} {w w' : World} {g : Nat} {aL : Option Addr} {nL cL : Nat} {fu bu : Int} {aO : Option Addr} {n cO : Nat} {vW vO : Value} {Ws : List Pl} {t : Nat}
set_option maxRecDepth 100000 in
theorem Se.ng (h : Se N w g aL nL cL fu bu aO n cO vW vO Ws t) : vW.ownBlock ≠ some g := own_off h.own h.sx.row (by decide)
set_option maxRecDepth 100000 in
theorem Se.below (h : Se N w g aL nL cL fu bu aO n cO vW vO Ws t) (hb : Below w.heap.size w w') : Se N w' g aL nL cL fu bu aO n cO vW vO Ws t :=
  ⟨h.sx.below hb, h.gN, owns_below h.own hb, fun x hx => ⟨owns_below (h.ins x hx).1 hb, (h.ins x hx).2⟩⟩
set_option maxRecDepth 100000 in
theorem Se.size (h : Se N w g aL nL cL fu bu aO n cO vW vO Ws t) : N ≤ w.heap.size := Nat.le_trans h.gN (Nat.le_of_lt h.sx.lt)
set_option maxRecDepth 100000 in
/-- the block of the search is written -/
theorem Se.put (h : Se N w g aL nL cL fu bu aO n cO vW vO Ws t) {i : Nat} {u vO' : Value} {t' : Nat} (hr : (w.setCell ⟨g, i, none⟩ u).heap[g]? = some (.cells #[.slice aL nL cL, .int .i64 fu, .int .i64 bu, .slice aO n cO, vW, .int .i64 0, vO', .int .i64 t'] 84 (0, 0))) : Se N (w.setCell ⟨g, i, none⟩ u) g aL nL cL fu bu aO n cO vW vO' Ws t' :=
  ⟨⟨hr⟩, h.gN, ownsRow_setCell_other h.own (a := ⟨g, i, none⟩) h.ng _, fun x hx => ⟨ownsRow_setCell_other (h.ins x hx).1 (a := ⟨g, i, none⟩) (own_off (h.ins x hx).1 h.sx.row (by decide)) _, (h.ins x hx).2⟩⟩
set_option maxRecDepth 100000 in
theorem Se.try1 (h : Se N w g aL nL cL fu bu aO n cO vW vO Ws t) : Se N (w.setCell ⟨g, 7, none⟩ (.int .i64 ((t : Int) + 1))) g aL nL cL fu bu aO n cO vW vO Ws (t + 1) :=
  h.put (heap_setCell_same w g 7 _ _ _ h.sx.row)
set_option maxRecDepth 100000 in
theorem Se.order (h : Se N w g aL nL cL fu bu aO n cO vW vO Ws t) (u : Value) : Se N (w.setCell ⟨g, 6, none⟩ u) g aL nL cL fu bu aO n cO vW u Ws t :=
  h.put (heap_setCell_same w g 6 _ _ _ h.sx.row)
set_option maxRecDepth 100000 in
theorem Se.cell (h : Se N w g aL nL cL fu bu aO n cO vW vO Ws t) : w.cell? ⟨g, 0, none⟩ = some (.slice aL nL cL) ∧ w.cell? ⟨g, 1, none⟩ = some (.int .i64 fu) ∧ w.cell? ⟨g, 2, none⟩ = some (.int .i64 bu) ∧ w.cell? ⟨g, 3, none⟩ = some (.slice aO n cO) ∧ w.cell? ⟨g, 4, none⟩ = some vW ∧ w.cell? ⟨g, 6, none⟩ = some vO ∧ w.cell? ⟨g, 7, none⟩ = some (.int .i64 t) :=
  ⟨cell_of_row _ g 0 _ _ (0, 0) h.sx.row, cell_of_row _ g 1 _ _ (0, 0) h.sx.row, cell_of_row _ g 2 _ _ (0, 0) h.sx.row, cell_of_row _ g 3 _ _ (0, 0) h.sx.row, cell_of_row _ g 4 _ _ (0, 0) h.sx.row, cell_of_row _ g 6 _ _ (0, 0) h.sx.row, cell_of_row _ g 7 _ _ (0, 0) h.sx.row⟩
set_option maxRecDepth 100000 in
theorem Se.froz (h : Se N w g aL nL cL fu bu aO n cO vW vO Ws t) (i : Nat) : w.frozen? ⟨g, i, none⟩ = false := frozen_of_row _ g i _ _ h.sx.row
end
/-- the order that is told -/
def OrP (N : Nat) (w : World) (R : Rs Po) (vO : Value) : Prop := (R.k = 1 → w.ownsRow N 3 1 vO R.o.length ((orI R.o).flatMap ivC)) ∧ (R.k ≠ 1 → vO = .slice none 0 0)
/-- what goes answers -/
def GoP (N : Nat) (g : Nat) (aL : Option Addr) (nL cL : Nat) (fu bu : Int) (aO : Option Addr) (n cO : Nat) (vW : Value) (w : World) (R : Rs Po) (e : Ending) (w' : World) : Prop :=
  ∃ (Ws' : List Pl) (vW' vO' : Value), e = .returned (.int .i64 (R.k : Nat)) ∧ Se N w' g aL nL cL fu bu aO n cO vW' vO' Ws' R.t ∧ Ws'.map Pl.p = R.W ∧ (Ws'.length ≤ R.t + 1 ∧ R.t ≤ bu.toNat) ∧ At2 w vW vW' ∧ Kept (ownS g vW) w w' ∧ OrP N w' R vO'
/-- what holds within goes: w the world at its entry, gp the variable of the position -/
structure GI (N : Nat) (w : World) (g gp : Nat) (aL : Option Addr) (nL cL : Nat) (fu bu : Int) (aO : Option Addr) (n cO : Nat) (vW : Value) (l : List Ic) (ops : List Opr) (a : Option Addr) (c : Nat) (I : List Bool) (s0 s1 s2 s3 : Int) (aR : Option Addr) (cR : Nat) (o : List Nat) (W : World) (vX : Value) (Ws : List Pl) (t : Nat) : Prop where
  se : Se N W g aL nL cL fu bu aO n cO vX (.slice none 0 0) Ws t
  kp : Kept (ownS g vW) w W
  at2 : At2 w vW vX
  pr : W.heap[gp]? = some (.cells #[.slice a n c, .int .i64 s0, .int .i64 s1, .int .i64 s2, .int .i64 s3] 88 (0, 0))
  pg : gp ≠ g ∧ w.heap.size ≤ gp
  ng : vX.ownBlock ≠ some gp
  pi : W.ownsRow N 4 1 (.slice a n c) n (I.flatMap bvC)
  od : W.ownsRow N 3 1 (.slice aR o.length cR) o.length ((orI o).flatMap ivC)
  ic : Ics W aL nL cL l
  oo : Ors W aO n cO ops
  ln : Ws.length ≤ t + 1 ∧ t ≤ bu.toNat
/-- what is low -/
structure LoB (N : Nat) (aL : Option Addr) (nL : Nat) (aO : Option Addr) (n : Nat) : Prop where
  l : ∀ p, aL = some p → 0 < nL → p.block < N
  o : ∀ p, aO = some p → 0 < n → p.block < N
section
variable {N : Nat} {w : World} {g gp : Nat} {aL : Option Addr} {nL cL : Nat} {fu bu : Int} {aO : Option Addr} {n cO : Nat} {vW : Value} {l : List Ic} {ops : List Opr} {a : Option Addr} {c : Nat} {I : List Bool} {s0 s1 s2 s3 : Int} {aR : Option Addr} {cR : Nat} {o : List Nat} {W W' : World} {vX : Value} {Ws : List Pl} {t : Nat}
set_option maxRecDepth 100000 in
theorem GI.below (h : GI N w g gp aL nL cL fu bu aO n cO vW l ops a c I s0 s1 s2 s3 aR cR o W vX Ws t) (hb : Below W.heap.size W W') : GI N w g gp aL nL cL fu bu aO n cO vW l ops a c I s0 s1 s2 s3 aR cR o W' vX Ws t :=
  ⟨h.se.below hb, h.kp.below hb, h.at2, up_row _ _ h.pr hb, h.pg, h.ng, owns_below h.pi hb, owns_below h.od hb, h.ic.below hb, h.oo.below hb, h.ln⟩
set_option maxRecDepth 100000 in
theorem GI.drew (h : GI N w g gp aL nL cL fu bu aO n cO vW l ops a c I s0 s1 s2 s3 aR cR o W vX Ws t) : GI N w g gp aL nL cL fu bu aO n cO vW l ops a c I s0 s1 s2 s3 aR cR o W.drew vX Ws t := h.below (Below.refl _ _).drew
set_option maxRecDepth 100000 in
theorem GI.set (h : GI N w g gp aL nL cL fu bu aO n cO vW l ops a c I s0 s1 s2 s3 aR cR o W vX Ws t) (hB : LoB N aL nL aO n) (ht : t + 1 ≤ bu.toNat) : GI N w g gp aL nL cL fu bu aO n cO vW l ops a c I s0 s1 s2 s3 aR cR o (W.setCell ⟨g, 7, none⟩ (.int .i64 ((t : Int) + 1))) vX Ws (t + 1) := by
  have hN := h.se.gN
  have hot : ∀ j, j < N → j < W.heap.size → (W.setCell ⟨g, 7, none⟩ (.int .i64 ((t : Int) + 1))).heap[j]? = W.heap[j]? := fun j hj _ => heap_setCell_other W ⟨g, 7, none⟩ j _ (show j ≠ g by omega)
  have hs : W.heap.size ≤ (W.setCell ⟨g, 7, none⟩ (.int .i64 ((t : Int) + 1))).heap.size := by simp
  exact ⟨h.se.try1, h.kp.setCell (g := g) (.inl (.inl rfl)) 7 _, h.at2, (heap_setCell_other W ⟨g, 7, none⟩ gp _ h.pg.1).trans h.pr, h.pg, h.ng, ownsRow_setCell_other h.pi (a := ⟨g, 7, none⟩) (own_off h.pi h.se.sx.row (by decide)) _, ownsRow_setCell_other h.od (a := ⟨g, 7, none⟩) (own_off h.od h.se.sx.row (by decide)) _, h.ic.low hB.l hot hs, h.oo.low hB.o hot hs, by have := h.ln; omega⟩
set_option maxRecDepth 100000 in
/-- behind what comes of a further position -/
theorem GI.gone (h : GI N w g gp aL nL cL fu bu aO n cO vW l ops a c I s0 s1 s2 s3 aR cR o W vX Ws t) (hB : LoB N aL nL aO n) {vX' : Value} {Ws' : List Pl} {t' : Nat} (hs : Se N W' g aL nL cL fu bu aO n cO vX' (.slice none 0 0) Ws' t') (hl : Ws'.length ≤ t' + 1 ∧ t' ≤ bu.toNat) (ha : At2 W vX vX') (hk : Kept (ownS g vX) W W') : GI N w g gp aL nL cL fu bu aO n cO vW l ops a c I s0 s1 s2 s3 aR cR o W' vX' Ws' t' := by
  have hXN : ∀ j, vX.ownBlock = some j → N ≤ j := fun j e => (h.se.own.lt j e).1
  have hgp : gp < W.heap.size := (Array.getElem?_eq_some_iff.1 h.pr).1
  have hot : ∀ j, j < N → j < W.heap.size → W'.heap[j]? = W.heap[j]? := fun j hj hjs => hk.block j hjs (fun e => by
    rcases e with e | e
    · have := h.se.gN; omega
    · have := hXN j e; omega)
  have hrow : ∀ {T : TypeId} {k m : Nat} {v : Value} {xs : List Value}, T ≠ 88 → T ≠ 84 → W.ownsRow N T k v m xs → W'.ownsRow N T k v m xs := fun hT1 hT2 hv => own_keep hv (fun j e => hk.block j (hv.lt j e).2 (fun x => by
    rcases x with x | x
    · exact own_off hv h.se.sx.row hT2 (by rw [e, x])
    · exact own_apart hv h.se.own hT1 j e x))
  refine ⟨hs, h.kp.trans hk (fun j x => ?_), ?_, ?_, h.pg, ?_, hrow (by decide) (by decide) h.pi, hrow (by decide) (by decide) h.od, h.ic.low hB.l hot hk.size, h.oo.low hB.o hot hk.size, hl⟩
  · rcases x with x | x
    · exact .inl (.inl x)
    · rcases h.at2 with e | ⟨i, e, hi⟩
      · exact .inl (.inr (by rw [← e]; exact x))
      · rw [e] at x; cases x; exact .inr hi
  · rcases ha with e | ⟨i, e, hi⟩
    · rcases h.at2 with e2 | ⟨i, e2, hi⟩
      · exact .inl (e.trans e2)
      · exact .inr ⟨i, e.trans e2, hi⟩
    · exact .inr ⟨i, e, Nat.le_trans h.kp.size hi⟩
  · exact (hk.block gp hgp (fun x => by
      rcases x with x | x
      · exact h.pg.1 x
      · exact h.ng x)).trans h.pr
  · rcases ha with e | ⟨i, e, hi⟩
    · rw [e]; exact h.ng
    · rw [e]; intro x; cases x; omega
set_option maxRecDepth 100000 in
/-- the bools of the position -/
theorem GI.bvs (h : GI N w g gp aL nL cL fu bu aO n cO vW l ops a c I s0 s1 s2 s3 aR cR o W vX Ws t) (hI : I.length = n) : Bvs W a n c I := by
  obtain ⟨ao, cap, e, hE⟩ := Ls.of_owns bvC_len h.pi hI
  cases e
  exact hE
set_option maxRecDepth 100000 in
/-- what was there stays there, what is new is new -/
theorem GI.fin (h : GI N w g gp aL nL cL fu bu aO n cO vW l ops a c I s0 s1 s2 s3 aR cR o W vX Ws t) {R : Rs Po} (hW : Ws.map Pl.p = R.W) (ht : t = R.t) (hk : R.k ≠ 1) : GoP N g aL nL cL fu bu aO n cO vW w R (.returned (.int .i64 (R.k : Nat))) W :=
  ⟨Ws, vX, .slice none 0 0, rfl, by rw [← ht]; exact h.se, hW, by rw [← ht]; exact h.ln, h.at2, h.kp, fun e => absurd e hk, fun _ => rfl⟩
end
end Go.Proofs.Ytbjeeefkbmdmfaa
namespace Go.Proofs.Ytbjeeefkbmdmfaa
open Go.RowKit
set_option linter.unusedVariables false

section
variable {s : Sr Po} {B : Nat} {g : Po → List Nat → List Po → Nat → Rs Po} {p q : Po} {o : List Nat} {k : Nat} {W : List Po} {t : Nat}
set_option maxRecDepth 100000 in
theorem lp_at (hk : k < s.n) : lp s B g p o ((List.range s.n).drop k) W t = lp s B g p o (k :: (List.range s.n).drop (k + 1)) W t := by
  rw [List.drop_eq_getElem_cons (by rw [List.length_range]; exact hk), List.getElem_range]
set_option maxRecDepth 100000 in
theorem lp_skip (hk : k < s.n) (h : s.free p k = false) : lp s B g p o ((List.range s.n).drop k) W t = lp s B g p o ((List.range s.n).drop (k + 1)) W t := by
  rw [lp_at hk]; conv => lhs; unfold lp
  rw [if_pos h]
set_option maxRecDepth 100000 in
theorem lp_out (hk : k < s.n) (h : s.free p k = true) (ht : t = B) : lp s B g p o ((List.range s.n).drop k) W t = ⟨4, [], W, t⟩ := by
  rw [lp_at hk]; conv => lhs; unfold lp
  rw [if_neg (by rw [h]; decide), if_pos ht]
set_option maxRecDepth 100000 in
theorem lp_fuel (hk : k < s.n) (h : s.free p k = true) (ht : t ≠ B) (hr : s.tr p k = .fuel) : lp s B g p o ((List.range s.n).drop k) W t = ⟨3, [], W, t + 1⟩ := by
  rw [lp_at hk]; conv => lhs; unfold lp
  rw [if_neg (by rw [h]; decide), if_neg ht, hr]
set_option maxRecDepth 100000 in
theorem lp_no (hk : k < s.n) (h : s.free p k = true) (ht : t ≠ B) (hr : s.tr p k = .no) : lp s B g p o ((List.range s.n).drop k) W t = lp s B g p o ((List.range s.n).drop (k + 1)) W (t + 1) := by
  rw [lp_at hk]; conv => lhs; unfold lp
  rw [if_neg (by rw [h]; decide), if_neg ht, hr]
set_option maxRecDepth 100000 in
theorem lp_was (hk : k < s.n) (h : s.free p k = true) (ht : t ≠ B) (hr : s.tr p k = .yes q) (hq : q ∈ W) : lp s B g p o ((List.range s.n).drop k) W t = lp s B g p o ((List.range s.n).drop (k + 1)) W (t + 1) := by
  rw [lp_at hk]; conv => lhs; unfold lp
  rw [if_neg (by rw [h]; decide), if_neg ht, hr]
  simp only
  rw [if_pos hq]
set_option maxRecDepth 100000 in
theorem lp_in (hk : k < s.n) (h : s.free p k = true) (ht : t ≠ B) (hr : s.tr p k = .yes q) (hq : ¬ q ∈ W) (h0 : (g q (o ++ [k]) W (t + 1)).k ≠ 0) : lp s B g p o ((List.range s.n).drop k) W t = g q (o ++ [k]) W (t + 1) := by
  rw [lp_at hk]; conv => lhs; unfold lp
  rw [if_neg (by rw [h]; decide), if_neg ht, hr]
  simp only
  rw [if_neg hq, if_pos h0]
set_option maxRecDepth 100000 in
theorem lp_in0 (hk : k < s.n) (h : s.free p k = true) (ht : t ≠ B) (hr : s.tr p k = .yes q) (hq : ¬ q ∈ W) (h0 : (g q (o ++ [k]) W (t + 1)).k = 0) : lp s B g p o ((List.range s.n).drop k) W t = lp s B g p o ((List.range s.n).drop (k + 1)) (g q (o ++ [k]) W (t + 1)).W (g q (o ++ [k]) W (t + 1)).t := by
  rw [lp_at hk]; conv => lhs; unfold lp
  rw [if_neg (by rw [h]; decide), if_neg ht, hr]
  simp only
  rw [if_neg hq, if_neg (by rw [h0]; decide)]
set_option maxRecDepth 100000 in
theorem lp_end (hk : s.n ≤ k) : lp s B g p o ((List.range s.n).drop k) W t = ⟨0, [], W, t⟩ := by
  rw [List.drop_eq_nil_of_le (by rw [List.length_range]; exact hk)]; rfl
end
set_option maxRecDepth 100000 in
theorem was_snoc {W : List Po} {q : Po} {j : Nat} (h : j < W.length) {x : Po} (hx : W[j] = x) : decide (q ∈ W.take (j + 1)) = (decide (q ∈ W.take j) || decide (x = q)) := by
  rw [List.take_add_one, List.getElem?_eq_getElem h, hx]
  by_cases h1 : q ∈ W.take j
  · rw [decide_eq_true h1, Bool.true_or]; exact decide_eq_true (List.mem_append_left _ h1)
  · rw [decide_eq_false h1, Bool.false_or]
    by_cases h2 : x = q
    · rw [decide_eq_true h2]; exact decide_eq_true (List.mem_append_right _ (by simp [h2]))
    · rw [decide_eq_false h2]
      refine decide_eq_false fun hm => ?_
      rcases List.mem_append.1 hm with hm | hm
      · exact h1 hm
      · simp at hm; exact h2 hm.symm
set_option maxRecDepth 100000 in
theorem own_sl {w : World} {b : Nat} {T : TypeId} {k n : Nat} {v : Value} {xs : List Value} (h : w.ownsRow b T k v n xs) : ∃ ao cap, v = .slice ao n cap := by
  rcases h.2 with ⟨rfl, rfl⟩ | ⟨g, cap, cur, rfl, _⟩
  · exact ⟨none, 0, rfl⟩
  · exact ⟨_, _, rfl⟩
set_option maxRecDepth 100000 in
theorem own_none {w : World} {b : Nat} {T : TypeId} {k n c : Nat} {ao : Option Addr} {xs : List Value} (h : w.ownsRow b T k (.slice ao n c) n xs) : (ao = none ∧ n = 0 ∧ c = 0) ∨ ∃ g, ao = some ⟨g, 0, none⟩ := by
  rcases h.2 with ⟨e, _⟩ | ⟨g, cap, cur, e, _⟩
  · cases e; exact .inl ⟨rfl, rfl, rfl⟩
  · cases e; exact .inr ⟨g, rfl⟩
set_option maxRecDepth 100000 in
/-- the cells of one of the positions -/
theorem pl_spot {w : World} {N n m g c : Nat} {V : List Pl} {x : Pl} (h : w.ownsRow N 88 5 (.slice (some ⟨g, 0, none⟩) m c) V.length (V.flatMap (plC n))) (j : Nat) (hj : j < V.length) (hx : V[j] = x) :
    w.cell? ⟨g, j * 5, none⟩ = some (.slice x.a n x.c) ∧ w.cell? ⟨g, j * 5 + 1, none⟩ = some (.int .i64 (x.p.S.getD 0 0)) ∧ w.cell? ⟨g, j * 5 + 2, none⟩ = some (.int .i64 (x.p.S.getD 1 0)) ∧ w.cell? ⟨g, j * 5 + 3, none⟩ = some (.int .i64 (x.p.S.getD 2 0)) ∧ w.cell? ⟨g, j * 5 + 4, none⟩ = some (.int .i64 (x.p.S.getD 3 0)) := by
  obtain ⟨ao, cap, e⟩ := own_sl h
  cases e
  have hc : ∀ i, i < 5 → w.cell? ⟨g, j * 5 + i, none⟩ = (plC n x)[i]? := fun i hi => by
    rw [h.cellAt (j * 5 + i) (by omega), flatE_get (plC_len n) V j i hj hi, hx]
  exact ⟨hc 0 (by decide), hc 1 (by decide), hc 2 (by decide), hc 3 (by decide), hc 4 (by decide)⟩
set_option maxRecDepth 100000 in
theorem orI_snoc (o : List Nat) (k : Nat) : orI (o ++ [k]) = orI o ++ [(k : Int)] := by simp [orI]
section
variable {N : Nat} {w : World} {g gp : Nat} {aL : Option Addr} {nL cL : Nat} {fu bu : Int} {aO : Option Addr} {n cO : Nat} {vW : Value} {l : List Ic} {ops : List Opr} {a : Option Addr} {c : Nat} {I : List Bool} {s0 s1 s2 s3 : Int} {aR : Option Addr} {cR : Nat} {o : List Nat} {W W' : World} {vX : Value} {Ws : List Pl} {t : Nat}
set_option maxRecDepth 100000 in
/-- the position is put to those where it was -/
theorem GI.push (h : GI N w g gp aL nL cL fu bu aO n cO vW l ops a c I s0 s1 s2 s3 aR cR o W vX Ws t) (hB : LoB N aL nL aO n) (hl : Ws.length ≤ t) (hI : I.length = n) {W2 : World} {vY : Value} (ho : W2.ownsRow N 88 5 vY (Ws.length + 1) (Ws.flatMap (plC n) ++ plC n ⟨a, c, ⟨I, [s0, s1, s2, s3]⟩⟩)) (hg : W.grownBy W2 vX.ownBlock) (ha : At W vX vY) :
    W2.heap[g]? = some (.cells #[.slice aL nL cL, .int .i64 fu, .int .i64 bu, .slice aO n cO, vX, .int .i64 0, .slice none 0 0, .int .i64 t] 84 (0, 0)) ∧
    GI N w g gp aL nL cL fu bu aO n cO vW l ops a c I s0 s1 s2 s3 aR cR o (W2.setCell ⟨g, 4, none⟩ vY) vY (Ws ++ [⟨a, c, ⟨I, [s0, s1, s2, s3]⟩⟩]) t := by
  have hgl := h.se.sx.lt
  have hgp : gp < W.heap.size := (Array.getElem?_eq_some_iff.1 h.pr).1
  have hXN : ∀ j, vX.ownBlock = some j → N ≤ j := fun j e => (h.se.own.lt j e).1
  have hng := h.se.ng
  have r1 : W2.heap[g]? = _ := (hg.block g hgl (fun e => hng e.symm)).trans h.se.sx.row
  have hYg : vY.ownBlock ≠ some g := by
    rcases ha with e | e
    · rw [e]; exact hng
    · rw [e]; intro x; cases x; exact absurd hgl (Nat.lt_irrefl _)
  have hYp : vY.ownBlock ≠ some gp := by
    rcases ha with e | e
    · rw [e]; exact h.ng
    · rw [e]; intro x; cases x; exact absurd hgp (Nat.lt_irrefl _)
  have hot : ∀ j, j < N → j < W.heap.size → (W2.setCell ⟨g, 4, none⟩ vY).heap[j]? = W.heap[j]? := fun j hj hjs =>
    (heap_setCell_other W2 ⟨g, 4, none⟩ j _ (show j ≠ g by have := h.se.gN; omega)).trans (hg.block j hjs (fun e => by have := hXN j e.symm; omega))
  have hsz : W.heap.size ≤ (W2.setCell ⟨g, 4, none⟩ vY).heap.size := by simpa using hg.size
  have hrow : ∀ {T : TypeId} {k m : Nat} {v : Value} {xs : List Value}, T ≠ 88 → T ≠ 84 → W.ownsRow N T k v m xs → (W2.setCell ⟨g, 4, none⟩ vY).ownsRow N T k v m xs := fun hT1 hT2 hv => own_keep hv (fun j e => by
    have hjg : j ≠ g := fun x => own_off hv h.se.sx.row hT2 (by rw [e, x])
    exact (heap_setCell_other W2 ⟨g, 4, none⟩ j _ hjg).trans (hg.block j (hv.lt j e).2 (fun x => own_apart hv h.se.own hT1 j e x.symm)))
  have hpi := hrow (by decide) (by decide) h.pi
  have hown : (W2.setCell ⟨g, 4, none⟩ vY).ownsRow N 88 5 vY (Ws ++ [(⟨a, c, ⟨I, [s0, s1, s2, s3]⟩⟩ : Pl)]).length ((Ws ++ [(⟨a, c, ⟨I, [s0, s1, s2, s3]⟩⟩ : Pl)]).flatMap (plC n)) := by
    have h1 := ownsRow_setCell_other ho (a := ⟨g, 4, none⟩) hYg vY
    rw [List.length_append, List.flatMap_append]
    simpa using h1
  refine ⟨r1, ⟨⟨heap_setCell_same W2 g 4 _ _ _ r1⟩, h.se.gN, hown, fun x hx => ?_⟩, (h.kp.grown hg (fun j e => ?_)).setCell (g := g) (.inl (.inl rfl)) 4 _, ?_, ?_, h.pg, hYp, hpi, hrow (by decide) (by decide) h.od, h.ic.low hB.l hot hsz, h.oo.low hB.o hot hsz, ?_⟩
  · rcases List.mem_append.1 hx with hx | hx
    · exact ⟨hrow (by decide) (by decide) (h.se.ins x hx).1, (h.se.ins x hx).2⟩
    · simp at hx; subst hx; exact ⟨hpi, hI, rfl⟩
  · rcases h.at2 with e2 | ⟨i, e2, hi⟩
    · exact .inl (.inr (by rw [← e2]; exact e))
    · rw [e2] at e; cases e; exact .inr hi
  · rcases ha with e | e
    · rcases h.at2 with e2 | ⟨i, e2, hi⟩
      · exact .inl (e.trans e2)
      · exact .inr ⟨i, e.trans e2, hi⟩
    · exact .inr ⟨_, e, h.kp.size⟩
  · exact (heap_setCell_other W2 ⟨g, 4, none⟩ gp _ h.pg.1).trans ((hg.block gp hgp (fun e => h.ng e.symm)).trans h.pr)
  · rw [List.length_append]; exact ⟨by simpa using hl, h.ln.2⟩
set_option maxRecDepth 100000 in
/-- a new variable is written -/
theorem GI.away (h : GI N w g gp aL nL cL fu bu aO n cO vW l ops a c I s0 s1 s2 s3 aR cR o W vX Ws t) (hB : LoB N aL nL aO n) {W3 : World} (h3 : GI N w g gp aL nL cL fu bu aO n cO vW l ops a c I s0 s1 s2 s3 aR cR o W3 vX Ws t) {z : Nat} (hz : W3.heap.size ≤ z) {f : World → World} (hf : ∀ j, j ≠ z → (f W).heap[j]? = W.heap[j]?) (hs : (f W).heap.size = W.heap.size) (hm : (f W).os = W.os ∧ (f W).tape = W.tape ∧ (f W).output = W.output) : GI N w g gp aL nL cL fu bu aO n cO vW l ops a c I s0 s1 s2 s3 aR cR o (f W) vX Ws t := by
  have hgl := h3.se.sx.lt
  have hgp : gp < W3.heap.size := (Array.getElem?_eq_some_iff.1 h3.pr).1
  have hN : N ≤ W3.heap.size := h3.se.size
  have hot : ∀ j, j < N → j < W.heap.size → (f W).heap[j]? = W.heap[j]? := fun j hj _ => hf j (by omega)
  have hrow : ∀ {T : TypeId} {k m : Nat} {v : Value} {xs : List Value}, W3.ownsRow N T k v m xs → W.ownsRow N T k v m xs → (f W).ownsRow N T k v m xs := fun hv3 hv => own_keep hv (fun j e => hf j (by have := (hv3.lt j e).2; omega))
  refine ⟨⟨⟨(hf g (by omega)).trans h.se.sx.row⟩, h.se.gN, hrow h3.se.own h.se.own, fun x hx => ⟨hrow (h3.se.ins x hx).1 (h.se.ins x hx).1, (h.se.ins x hx).2⟩⟩, ?_, h.at2, (hf gp (by omega)).trans h.pr, h.pg, h.ng, hrow h3.pi h.pi, hrow h3.od h.od, h.ic.low hB.l hot (by rw [hs]; exact Nat.le_refl _), h.oo.low hB.o hot (by rw [hs]; exact Nat.le_refl _), h.ln⟩
  exact ⟨hm.1.trans h.kp.os, hm.2.1.trans h.kp.tape, hm.2.2.trans h.kp.output, by rw [hs]; exact h.kp.size, fun j hj ho => (hf j (by have := h3.kp.size; omega)).trans (h.kp.block j hj ho)⟩
set_option maxRecDepth 100000 in
/-- what comes of a further position is told -/
theorem GI.told (h : GI N w g gp aL nL cL fu bu aO n cO vW l ops a c I s0 s1 s2 s3 aR cR o W vX Ws t) {R : Rs Po} {e : Ending} (hG : GoP N g aL nL cL fu bu aO n cO vX W R e W') : GoP N g aL nL cL fu bu aO n cO vW w R e W' := by
  obtain ⟨Ws', vY, vO', e1, h1, h2, h3, h4, h5, h6⟩ := hG
  refine ⟨Ws', vY, vO', e1, h1, h2, h3, ?_, h.kp.trans h5 (fun j x => ?_), h6⟩
  · rcases h4 with e | ⟨i, e, hi⟩
    · rcases h.at2 with e2 | ⟨i, e2, hi⟩
      · exact .inl (e.trans e2)
      · exact .inr ⟨i, e.trans e2, hi⟩
    · exact .inr ⟨i, e, Nat.le_trans h.kp.size hi⟩
  · rcases x with x | x
    · exact .inl (.inl x)
    · rcases h.at2 with e | ⟨i, e, hi⟩
      · exact .inl (.inr (by rw [← e]; exact x))
      · rw [e] at x; cases x; exact .inr hi
set_option maxRecDepth 100000 in
theorem GI.over (h : GI N w g gp aL nL cL fu bu aO n cO vW l ops a c I s0 s1 s2 s3 aR cR o W vX Ws t) {R : Rs Po} {k' : Nat} (hR : (⟨k', [], Ws.map Pl.p, t⟩ : Rs Po) = R) (hk : k' ≠ 1) : GoP N g aL nL cL fu bu aO n cO vW w R (.returned (.int .i64 (k' : Nat))) W := by
  subst hR; exact h.fin rfl rfl hk
set_option maxRecDepth 100000 in
/-- a new variable is written, cell by cell -/
theorem GI.cells (h : GI N w g gp aL nL cL fu bu aO n cO vW l ops a c I s0 s1 s2 s3 aR cR o W vX Ws t) (hB : LoB N aL nL aO n) {W3 : World} (h3 : GI N w g gp aL nL cL fu bu aO n cO vW l ops a c I s0 s1 s2 s3 aR cR o W3 vX Ws t) {z : Nat} (hz : W3.heap.size ≤ z) (vs : List Value) : GI N w g gp aL nL cL fu bu aO n cO vW l ops a c I s0 s1 s2 s3 aR cR o (W.setCells z 0 vs) vX Ws t := by
  have hk := (Kept.refl (fun _ => True) W).setCells (g := z) (.inl trivial) vs 0
  exact h.away hB h3 hz (f := fun W => W.setCells z 0 vs) (fun j hj => setCells_other hj vs 0) (setCells_size vs 0) ⟨hk.os, hk.tape, hk.output⟩
set_option maxRecDepth 100000 in
theorem GI.cell1 (h : GI N w g gp aL nL cL fu bu aO n cO vW l ops a c I s0 s1 s2 s3 aR cR o W vX Ws t) (hB : LoB N aL nL aO n) {W3 : World} (h3 : GI N w g gp aL nL cL fu bu aO n cO vW l ops a c I s0 s1 s2 s3 aR cR o W3 vX Ws t) {z : Nat} (hz : W3.heap.size ≤ z) (i : Nat) (v : Value) : GI N w g gp aL nL cL fu bu aO n cO vW l ops a c I s0 s1 s2 s3 aR cR o (W.setCell ⟨z, i, none⟩ v) vX Ws t := by
  have hk := (Kept.refl (fun _ => True) W).setCell (g := z) (.inl trivial) i v
  exact h.away hB h3 hz (f := fun W => W.setCell ⟨z, i, none⟩ v) (fun j hj => heap_setCell_other W ⟨z, i, none⟩ j v hj) (by simp) ⟨hk.os, hk.tape, hk.output⟩
set_option maxRecDepth 100000 in
/-- it fits -/
theorem GI.fits (h : GI N w g gp aL nL cL fu bu aO n cO vW l ops a c I s0 s1 s2 s3 aR cR o W vX Ws t) {R : Rs Po} {vO : Value} (hO : W.ownsRow N 3 1 vO o.length ((orI o).flatMap ivC)) (hR : R = ⟨1, o, Ws.map Pl.p, t⟩) : GoP N g aL nL cL fu bu aO n cO vW w R (.returned (.int .i64 1)) (W.setCell ⟨g, 6, none⟩ vO) := by
  subst hR
  refine ⟨Ws, vX, vO, rfl, h.se.order vO, rfl, h.ln, h.at2, h.kp.setCell (g := g) (.inl (.inl rfl)) 6 _, fun _ => ?_, fun e => absurd rfl e⟩
  exact ownsRow_setCell_other hO (a := ⟨g, 6, none⟩) (own_off hO h.se.sx.row (by decide)) _
end
end Go.Proofs.Ytbjeeefkbmdmfaa
