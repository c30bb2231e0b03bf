/- What clash's Path answers. -/
import Derived.Test.YtfkloilbjfleeaaDoorClimb2
import Derived.Test.YtfkloilbjfleeaaDoorWay
import Derived.Test.YtfkloilbjfleeaaDoorLeaves
import Derived.Test.YtfkloilbjfleeaaDoorSmf
import Derived.Test.YtfkloilbjfleeaaDoorWritten
namespace Go.Proofs.YtfkloilbjfleeaaDoor
open Go.RowKit
set_option linter.unusedVariables false

/-- the answer: a clash just if there must be one -/
def CAns (must : Bool) (x : Int) (e : Ending) (w' : World) : Prop :=
  (must = false → e = .returned (.tuple #[.agg #[.slice none 0 0, .slice none 0 0], .bool false])) ∧
  (must = true → ∃ a n c b m d A B, e = .returned (.tuple #[.agg #[.slice a n c, .slice b m d], .bool true]) ∧ Bts w' a n c A ∧ Bts w' b m d B ∧ n ≤ 1000000 ∧ m ≤ 1000000 ∧ clashB A B x = true)
set_option maxRecDepth 100000 in
theorem cans_no {must : Bool} {x : Int} {w' : World} (h : must = false) : CAns must x (.returned (.tuple #[.agg #[.slice none 0 0, .slice none 0 0], .bool false])) w' := ⟨fun _ => rfl, fun h2 => by rw [h] at h2; cases h2⟩
set_option maxRecDepth 100000 in
theorem cans_yes {must : Bool} {x : Int} {w' : World} {a b : Option Addr} {n m c d : Nat} {A B : List Int} (h : must = true) (hA : Bts w' a n c A) (hB : Bts w' b m d B) (hn : n ≤ 1000000) (hm : m ≤ 1000000) (hc : clashB A B x = true) : CAns must x (.returned (.tuple #[.agg #[.slice a n c, .slice b m d], .bool true])) w' :=
  ⟨fun h2 => (by rw [h] at h2; cases h2), fun _ => ⟨a, n, c, b, m, d, A, B, rfl, hA, hB, hn, hm, hc⟩⟩
/-- what stays: the answer's place, the digest in the block Vs, the leaves -/
structure PS (R Vs : Nat) (sh : List Int) (la : Option Addr) (len lc : Nat) (L : List (List Int)) (w wr : World) : Prop where
  c0 : C0 R w wr
  vs : wr.heap[Vs]? = some (.cells (bv sh).toArray 42 (0, 0))
  lv : Dgs wr la len lc L
set_option maxRecDepth 100000 in
theorem PS.step {R Vs : Nat} {sh : List Int} {la : Option Addr} {len lc : Nat} {L : List (List Int)} {w wr w1 : World} (h : PS R Vs sh la len lc L w wr) (hb : Below wr.heap.size wr w1) : PS R Vs sh la len lc L w w1 := ⟨h.c0.step hb, row_step h.vs hb, h.lv.below hb⟩
set_option maxRecDepth 100000 in
theorem C0.drewN {R : Nat} {w wr : World} (h : C0 R w wr) (n : Nat) : C0 R w (wr.drewN n) := ⟨below_drewN h.low n, h.ge, h.size, h.res⟩
set_option maxRecDepth 100000 in
theorem PS.drewN {R Vs : Nat} {sh : List Int} {la : Option Addr} {len lc : Nat} {L : List (List Int)} {w wr : World} (h : PS R Vs sh la len lc L w wr) (n : Nat) : PS R Vs sh la len lc L w (wr.drewN n) := ⟨h.c0.drewN n, h.vs, h.lv.drewN n⟩
set_option maxRecDepth 100000 in
theorem C0.put {R : Nat} {w wr : World} (h : C0 R w wr) (D : Array Value) (hD : D.size = 2) : C0 R w (wr.setCells R 0 D.toList) := by
  have hs := h.size
  obtain ⟨cs, e1, e2⟩ := h.res
  exact ⟨below_setCells h.low R h.ge _ 0, h.ge, Nat.le_trans hs ((But.refl R wr).setCells D.toList 0).size, D, hD, heap_stored (vs := D) e2 (by rw [hD, e1])⟩
set_option maxRecDepth 100000 in
theorem PS.put {R Vs : Nat} {sh : List Int} {la : Option Addr} {len lc : Nat} {L : List (List Int)} {w wr : World} (h : PS R Vs sh la len lc L w wr) (hV : Vs ≠ R) (hL : ∀ p, la = some p → p.block ≠ R) (D : Array Value) (hD : D.size = 2) : PS R Vs sh la len lc L w (wr.setCells R 0 D.toList) :=
  ⟨h.c0.put D hD, row_but h.vs hV _, h.lv.but2 ((But.refl R wr).setCells D.toList 0) (fun _ p hp => hL p hp)⟩
set_option maxRecDepth 100000 in
theorem PS.elem {R Vs : Nat} {sh lj : List Int} {lb lo len lc j : Nat} {L : List (List Int)} {w wr : World} (h : PS R Vs sh (some ⟨lb, lo, none⟩) len lc L w wr) (hlj : L.getD j [] = lj) (hj : j < len) : wr.rangeAt lb (lo + j * 32) (bv lj) := by
  obtain ⟨b, o, e, _, hc⟩ := h.lv.spot (by omega)
  cases e
  rw [← hlj, Nat.mul_comm j 32]; exact hc j hj
set_option maxRecDepth 100000 in
theorem bts_put {R : Nat} {wr : World} {a : Option Addr} {n c : Nat} {l : List Int} (h : Bts wr a n c l) (hne : ∀ p, a = some p → p.block ≠ R) (vs : List Value) : Bts (wr.setCells R 0 vs) a n c l :=
  ⟨h.len_eq, h.byt, h.le_cap, h.cap_le, h.nil, fun hp => by
    obtain ⟨b, off, e, hlt, hc⟩ := h.spot hp
    have hb : But R wr (wr.setCells R 0 vs) := (But.refl R wr).setCells vs 0
    exact ⟨b, off, e, Nat.lt_of_lt_of_le hlt hb.size, fun i hi => (World.cell?_of_block (a := ⟨b, off + i, none⟩) (hb.block b hlt (hne _ e))).trans (hc i hi)⟩⟩
set_option maxRecDepth 100000 in
theorem C0.tr {R : Nat} {w wr : World} (h : C0 R w wr) : TR 25 2 0 R wr := ⟨Nat.zero_le _, h.res⟩
set_option maxRecDepth 100000 in
theorem c0_new (w : World) : C0 w.heap.size w (w.alloc (.cells #[.slice none 0 0, .slice none 0 0] 25)) := ⟨(Below.refl _ _).alloc (Nat.le_refl _) _, Nat.le_refl _, by simp, _, rfl, heap_alloc_new _ _⟩
set_option maxRecDepth 100000 in
/-- the facts at the end where the answer is stored -/
theorem c0_end {R : Nat} {w wr : World} (h : C0 R w wr) (D : Array Value) (hD : D.size = 2) : Bx (wr.there R 0 D.size) ∧ Bx ((wr.setCells R 0 D.toList).heap[R]? = some (.cells D 25 (0, 0))) ∧ Bx (Below w.heap.size w (wr.setCells R 0 D.toList)) :=
  ⟨⟨h.tr.there hD⟩, ⟨h.tr.put hD⟩, ⟨below_setCells h.low R h.ge D.toList 0⟩⟩
set_option maxRecDepth 100000 in
theorem cls_build (w : World) : (Instr.build 25 #[]).run Tryd.prog w = .ok (.agg #[.slice none 0 0, .slice none 0 0]) w := by
  refine run_build w _ _ _ ?_
  kernel_rfl

set_option maxRecDepth 100000 in
set_option maxHeartbeats 2000000 in
theorem cpath_any (a : Option Addr) (len cap : Nat) (T : List (List Int)) (i : Int) (al : Option Addr) (ll cl : Nat) (lf : List Int) (ap : Option Addr) (lp cp : Nat) (P : List (List Int)) (x : Int) (w : World) (hT : Txs w a len cap T) (hf : ∀ t ∈ T, t.length ≤ 100000) (hl : len ≤ 1000)
    (hL : Bts w al ll cl lf) (hll : ll ≤ 100000) (hP : Dgs w ap lp cp P) (hlp : lp ≤ 100000) (htab : Tab w) :
    Calls Tryd.prog 15 #[.slice a len cap, .int .i64 i, .slice al ll cl, .slice ap lp cp, .int .i64 x] w fun e w' => CAns (mustP T i lf P x) x e w' ∧ Below w.heap.size w w' := by
  have hC := c0_new w
  have hTL := hT.len_eq
  have hcc := hT.le_cap
  have hcm := hT.cap_le
  unfold maxLen at hcm
  by_cases hin : 0 ≤ i ∧ i < (len : Int)
  · obtain ⟨j, rfl⟩ : ∃ j : Nat, i = (j : Int) := ⟨i.toNat, by omega⟩
    have hj : j < len := by omega
    have g1 : decide ((j : Int) < 0) = false := by simp
    have g2 : decide (len ≤ j) = false := by simp; omega
    obtain ⟨b, off, rfl, hblt, hc⟩ := hT.spot (by omega)
    obtain ⟨ai, li, ci, hcell0, hbt0⟩ := hc j hj
    have hfit := hf (T.getD j []) (by rw [List.getD_eq_getElem?_getD, List.getElem?_eq_getElem (by omega)]; exact List.getElem_mem _)
    have hli : li ≤ 100000 := by have := hbt0.len_eq; omega
    have hjI : (j : Int) < (len : Int) := by omega
    clear hc hfit
    by_cases heq : lf = T.getD j []
    · have HNO : Bx (mustP T (j : Int) lf P x = false) := ⟨by unfold mustP; rw [decide_eq_false (fun h => h.2.2 (by rw [show ((j : Int)).toNat = j from by omega, heq]))]; rfl⟩
      have HEQ : Bx (∀ W, Below w.heap.size w W → Calls Tryd.prog 29 #[.slice al ll cl, .slice ai li ci] W fun e w' => e = .returned (.bool true) ∧ W = w') := ⟨fun W hW => by
        have h := beq_any al ai ll li cl ci lf (T.getD j []) W (hL.below hW) (hbt0.below hW)
        rw [decide_eq_true heq] at h; exact h⟩
      have HCE : Bx ((w.alloc (.cells #[.slice none 0 0, .slice none 0 0] 25)).cell? ⟨b, off + j, none⟩ = some (.slice ai li ci)) := ⟨(hC.low.cell (p := ⟨b, off + j, none⟩) hblt).trans hcell0⟩
      clear hT hL hP htab heq hbt0 hcell0 hf hTL
      go_enter Tryd.func15, Tryd.ntmps15
      have hcell := HCE.out
      go_wp2_with fail
      generalize w.alloc (.cells #[.slice none 0 0, .slice none 0 0] 25) = w0 at hC hcell HCE ⊢
      refine (HEQ.out _ hC.low).mono ?_
      rintro e w' ⟨rfl, rfl⟩
      have hbd := cls_build
      clear HEQ HCE hcell
      obtain ⟨HTH, HST, HBS⟩ := c0_end hC #[.slice none 0 0, .slice none 0 0] rfl
      clear hC
      go_wp2_with (refine wpList_store_mid rfl 25 (.tmp 10) (.tmp 33) rfl w.heap.size 0 #[.slice none 0 0, .slice none 0 0] rfl rfl ?ht cls_info (cls_one ..) ?_; (case ht => exact HTH.out))
      exact bodyPost_ret (v := .tuple #[.agg #[.slice none 0 0, .slice none 0 0], .bool false]) (results_ct25 rfl _ _ w.heap.size #[.slice none 0 0, .slice none 0 0] _ rfl rfl HST.out cls_info) rfl ⟨cans_no HNO.out, HBS.out⟩
    · have hneT : T.getD j [] ≠ lf := fun h => heq h.symm
      have HEQ : Bx (∀ W, Below w.heap.size w W → Calls Tryd.prog 29 #[.slice al ll cl, .slice ai li ci] W fun e w' => e = .returned (.bool false) ∧ W = w') := ⟨fun W hW => by
        have h := beq_any al ai ll li cl ci lf (T.getD j []) W (hL.below hW) (hbt0.below hW)
        rw [decide_eq_false heq] at h; exact h⟩
      have HCE : Bx ((w.alloc (.cells #[.slice none 0 0, .slice none 0 0] 25)).cell? ⟨b, off + j, none⟩ = some (.slice ai li ci)) := ⟨(hC.low.cell (p := ⟨b, off + j, none⟩) hblt).trans hcell0⟩
      have HLV : Bx (∀ W, Below w.heap.size w W → Calls Tryd.prog 34 #[.slice (some ⟨b, off, none⟩) len cap, .int .i64 x] W fun e w' => ∃ a' c', e = .returned (.slice a' len c') ∧ Dgs w' a' len c' (leavesL T x) ∧ (∀ p, a' = some p → W.heap.size ≤ p.block) ∧ Below W.heap.size W w') := ⟨fun W hW => leaves_any _ len cap T x W (hT.below hW) (fun t ht => Nat.le_trans (hf t ht) (by decide)) (htab.below hW) hl⟩
      have HLF : Bx (∀ W, Below w.heap.size w W → Calls Tryd.prog 35 #[.slice al ll cl, .int .i64 x] W fun e w' => e = .returned (.agg (bv (leafL lf x)).toArray) ∧ Below W.heap.size W w') := ⟨fun W hW => leaf_any al ll cl lf x W (hL.below hW) (htab.below hW) (by omega)⟩
      have HT1 : Bx (∀ W, Below w.heap.size w W → Calls Tryd.prog 38 #[.slice ai li ci] W fun e w' => ∃ a' c', e = .returned (.slice a' (1 + li) c') ∧ Bts w' a' (1 + li) c' (0 :: T.getD j []) ∧ (∀ p, a' = some p → W.heap.size ≤ p.block) ∧ Below W.heap.size W w') := ⟨fun W hW => leaftext_any ai li ci _ W (hbt0.below hW) (by omega)⟩
      have HT2 : Bx (∀ W, Below w.heap.size w W → Calls Tryd.prog 38 #[.slice al ll cl] W fun e w' => ∃ a' c', e = .returned (.slice a' (1 + ll) c') ∧ Bts w' a' (1 + ll) c' (0 :: lf) ∧ (∀ p, a' = some p → W.heap.size ≤ p.block) ∧ Below W.heap.size W w') := ⟨fun W hW => leaftext_any al ll cl lf W (hL.below hW) (by omega)⟩
      have HMU : Bx (mustP T (j : Int) lf P x = chkP (rootL (leavesL T x) x) (len : Int) (j : Int) (leafL lf x) P x) := ⟨by
        unfold mustP
        rw [hTL, decide_eq_true ⟨by omega, by omega, by rw [show ((j : Int)).toNat = j from by omega]; exact hneT⟩, Bool.true_and]⟩
      have HPM : Bx (chkP (rootL (leavesL T x) x) (len : Int) (j : Int) (leafL lf x) P x = true → clashB (0 :: T.getD j []) (0 :: lf) x = false → lp = (stepsL len j).length ∧ (pathL (leavesL T x) j x).length = lp ∧ ∃ A B, climbL x (stepsL len j).reverse (pathL (leavesL T x) j x) P (leafL (T.getD j []) x) (leafL lf x) = some (A, B)) := ⟨fun h1 h2 => by
        obtain ⟨m1, m2, m3⟩ := path_must T j lf P x (by omega) hneT hP.dig (by rw [hTL]; exact h1) h2
        rw [hTL, hP.len_eq] at m1
        rw [hTL] at m2 m3
        exact ⟨m1, by rw [m2, ← m1], m3⟩⟩
      have hshd := leafL_dg lf x
      have hLd := leavesL_dg T x
      have hlj : (leavesL T x).getD j [] = leafL (T.getD j []) x := leavesL_getD T x j (by omega)
      have hljd := leafL_dg (T.getD j []) x
      generalize leafL (T.getD j []) x = lj at hlj hljd HPM
      generalize T.getD j [] = tj at hbt0 HT1 HPM hneT
      generalize leavesL T x = L at HLV HMU HPM hLd hlj
      generalize leafL lf x = sh at HLF HMU HPM hshd
      clear heq hf hT hTL hneT hbt0
      go_enter Tryd.func15, Tryd.ntmps15
      have hcell := HCE.out
      go_wp2_with fail
      generalize w.alloc (.cells #[.slice none 0 0, .slice none 0 0] 25) = w0 at hC hcell HCE ⊢
      refine (HEQ.out _ hC.low).mono ?_
      rintro e w' ⟨rfl, rfl⟩
      clear HEQ HCE hcell
      go_wp2_with fail
      refine (HLV.out _ hC.low).mono ?_
      rintro e w1 ⟨la, lc, rfl, hlv1, hnew1, hb1⟩
      have hC1 := hC.step hb1
      have hLR : ∀ p, la = some p → p.block ≠ w.heap.size := fun p hp => by have h1 := hnew1 p hp; have h2 := hC.size; omega
      clear hnew1 hC HLV
      go_wp2_with fail
      refine (HLF.out _ hC1.low).mono ?_
      rintro e w2 ⟨rfl, hb2⟩
      have hC2 := hC1.step hb2
      have hlv2 := hlv1.below hb2
      clear hC1 hlv1 hb1 hb2 HLF
      obtain ⟨DS, hDS⟩ : ∃ DS, DS = (bv sh).toArray := ⟨_, rfl⟩
      obtain ⟨hdv, hth, hinf, hone⟩ := dig_var w2 sh hshd.1 DS hDS
      have HTHR : Bx _ := ⟨hth⟩
      have HDV : Bx _ := ⟨hdv⟩
      have HINF : Bx _ := ⟨hinf⟩
      have HONE : Bx _ := ⟨hone⟩
      rw [← hDS]
      clear hdv hth hinf hone hDS
      go_wp2_with (refine wpList_store_mid rfl 42 (.tmp 13) (.tmp 39) rfl w2.heap.size 0 DS rfl rfl ?ht HINF.out HONE.out ?_; (case ht => exact HTHR.out); have hdv := HDV.out; generalize (w2.alloc (.cells #[.int .u8 0, .int .u8 0, .int .u8 0, .int .u8 0, .int .u8 0, .int .u8 0, .int .u8 0, .int .u8 0, .int .u8 0, .int .u8 0, .int .u8 0, .int .u8 0, .int .u8 0, .int .u8 0, .int .u8 0, .int .u8 0, .int .u8 0, .int .u8 0, .int .u8 0, .int .u8 0, .int .u8 0, .int .u8 0, .int .u8 0, .int .u8 0, .int .u8 0, .int .u8 0, .int .u8 0, .int .u8 0, .int .u8 0, .int .u8 0, .int .u8 0, .int .u8 0] 42)).setCells w2.heap.size 0 DS.toList = w3 at hdv ⊢; clear HDV HTHR)
      have hPS : PS w.heap.size w2.heap.size sh la len lc L w w3 := ⟨hC2.step hdv.low, hdv.row, hlv2.below hdv.low⟩
      have hVR : w2.heap.size ≠ w.heap.size := by have := hC2.size; omega
      clear hdv hlv2 hC2 HINF HONE
      generalize w2.heap.size = Vs at hPS hVR ⊢
      obtain ⟨R, hR⟩ : ∃ R, R = w.heap.size := ⟨_, rfl⟩
      rw [← hR] at hPS hVR hLR ⊢
      have HR : Hid (R = w.heap.size) := hR
      clear hR
      have HRT : Bx (∀ W, PS R Vs sh la len lc L w W → Calls Tryd.prog 37 #[.slice la len lc, .int .i64 x] W fun e w' => e = .returned (.agg (bv (rootL L x)).toArray) ∧ Below W.heap.size W w') := ⟨fun W h => root_any len la len lc L x W (Nat.le_refl _) h.lv (htab.below h.c0.low) (by omega)⟩
      have hRd := rootL_dg L x hLd
      have HCK : Bx (∀ W, PS R Vs sh la len lc L w W → Calls Tryd.prog 36 #[.agg (bv (rootL L x)).toArray, .int .i64 len, .int .i64 j, .agg (bv sh).toArray, .slice ap lp cp, .int .i64 x] W fun e w' => e = .returned (.bool (chkP (rootL L x) (len : Int) (j : Int) sh P x)) ∧ Below W.heap.size W w') := ⟨fun W h => checkpath_any (rootL L x) len j sh ap lp cp P x W hRd hshd (by omega) (hP.below h.c0.low) (htab.below h.c0.low)⟩
      have hdS : (Tryd.prog.info? 42).map (·.size) = some (bv sh).length := by rw [bv_length, hshd.1]; exact dig_info
      generalize rootL L x = RT at HRT HCK HMU HPM
      obtain ⟨cb, hcb⟩ : ∃ cb, cb = chkP RT (len : Int) (j : Int) sh P x := ⟨_, rfl⟩
      rw [← hcb] at HCK HMU HPM
      clear hcb hRd
      go_wp2_with fail
      have hk : PS R Vs sh la len lc L w w3.drew := hPS.drewN 1
      clear hPS
      refine wp_region_held_drew (S := fun W => PS R Vs sh la len lc L w W) (by kernel_rfl) hk (fun _ => ?_)
      generalize w3.drew = wk at hk ⊢
      refine wpAnyH_take (i := 0) (oi := { dst := some 40, op := Op.move (Operand.tmp 12), type := 30, pos := "clash.go:30", after := #[], guard := none }) (v := ?vcp41) rfl (by kernel_rfl) (by kernel_rfl) (by kernel_rfl) (fun _ _ _ h => h) (Or.inl ⟨by rfl, ?ycp41⟩) hk ?rcp41
      case ycp41 => (intro w hSw; (try dsimp only at hSw); go_simp; first | done | with_reducible rfl)
      simp only [Act.put, List.setIfInBounds_toArray, List.set_cons_zero, List.set_cons_succ]
      refine wpAnyH_take (i := 1) (oi := { dst := some 41, op := Op.move (Operand.tmp 4), type := 3, pos := "clash.go:30", after := #[], guard := none }) (v := ?vcp42) rfl (by kernel_rfl) (by kernel_rfl) (by kernel_rfl) (fun _ _ _ h => h) (Or.inl ⟨by rfl, ?ycp42⟩) hk ?rcp42
      case ycp42 => (intro w hSw; (try dsimp only at hSw); go_simp; first | done | with_reducible rfl)
      simp only [Act.put, List.setIfInBounds_toArray, List.set_cons_zero, List.set_cons_succ]
      refine wpAnyH_take (i := 3) (oi := { dst := some 43, op := Op.move (Operand.tmp 12), type := 30, pos := "clash.go:30", after := #[], guard := none }) (v := ?vcp43) rfl (by kernel_rfl) (by kernel_rfl) (by kernel_rfl) (fun _ _ _ h => h) (Or.inl ⟨by rfl, ?ycp43⟩) hk ?rcp43
      case ycp43 => (intro w hSw; (try dsimp only at hSw); go_simp; first | done | with_reducible rfl)
      simp only [Act.put, List.setIfInBounds_toArray, List.set_cons_zero, List.set_cons_succ]
      refine wpAnyH_take (i := 4) (oi := { dst := some 44, op := Op.call { callee := Callee.builtin Builtin.len, args := #[Operand.tmp 43], argTypes := #[30] }, type := 3, pos := "clash.go:30", after := #[{ on := 3, ground := Ground.data }], guard := none }) (v := ?vcp44) rfl (by kernel_rfl) (by kernel_rfl) (by kernel_rfl) (fun _ _ _ h => h) (Or.inl ⟨by rfl, ?ycp44⟩) hk ?rcp44
      case ycp44 => (intro w hSw; (try dsimp only at hSw); go_simp; first | done | with_reducible rfl)
      simp only [Act.put, List.setIfInBounds_toArray, List.set_cons_zero, List.set_cons_succ]
      refine wpAnyH_take (i := 5) (oi := { dst := some 45, op := Op.move (Operand.tmp 1), type := 3, pos := "clash.go:30", after := #[], guard := none }) (v := ?vcp45) rfl (by kernel_rfl) (by kernel_rfl) (by kernel_rfl) (fun _ _ _ h => h) (Or.inl ⟨by rfl, ?ycp45⟩) hk ?rcp45
      case ycp45 => (intro w hSw; (try dsimp only at hSw); go_simp; first | done | with_reducible rfl)
      simp only [Act.put, List.setIfInBounds_toArray, List.set_cons_zero, List.set_cons_succ]
      refine wpAnyH_take (i := 6) (oi := { dst := some 46, op := Op.load 42 (Operand.tmp 13), type := 42, pos := "clash.go:30", after := #[], guard := none }) (v := .agg (bv sh).toArray) rfl (by kernel_rfl) (by kernel_rfl) (by kernel_rfl) (fun _ _ _ h => h) (yieldsIf_load_mid (by rfl) 42 (.tmp 13) rfl Vs 0 rfl (bv sh) _ (fun W h => range_row h.vs) Tryd.underlying42 rfl hdS) hk ?_
      simp only [Act.put, List.setIfInBounds_toArray, List.set_cons_zero, List.set_cons_succ]
      refine wpAnyH_take (i := 7) (oi := { dst := some 47, op := Op.move (Operand.tmp 3), type := 30, pos := "clash.go:30", after := #[], guard := none }) (v := ?vcp46) rfl (by kernel_rfl) (by kernel_rfl) (by kernel_rfl) (fun _ _ _ h => h) (Or.inl ⟨by rfl, ?ycp46⟩) hk ?rcp46
      case ycp46 => (intro w hSw; (try dsimp only at hSw); go_simp; first | done | with_reducible rfl)
      simp only [Act.put, List.setIfInBounds_toArray, List.set_cons_zero, List.set_cons_succ]
      refine wpAnyH_take (i := 8) (oi := { dst := some 48, op := Op.move (Operand.tmp 4), type := 3, pos := "clash.go:30", after := #[], guard := none }) (v := ?vcp47) rfl (by kernel_rfl) (by kernel_rfl) (by kernel_rfl) (fun _ _ _ h => h) (Or.inl ⟨by rfl, ?ycp47⟩) hk ?rcp47
      case ycp47 => (intro w hSw; (try dsimp only at hSw); go_simp; first | done | with_reducible rfl)
      simp only [Act.put, List.setIfInBounds_toArray, List.set_cons_zero, List.set_cons_succ]
      refine wpAnyH_ready (rs := [2]) (by decide +kernel) (by simp) ?_
      refine AllReadyH.cons (o := { dst := some 42, op := Op.call { callee := Callee.value (Operand.func 37), args := #[Operand.tmp 40, Operand.tmp 41], argTypes := #[30, 3] }, type := 42, pos := "clash.go:30", after := #[{ on := 0, ground := Ground.data }, { on := 1, ground := Ground.data }], guard := none }) rfl (fun K hK => ?_) AllReadyH.nil
      go_simp
      refine (HRT.out _ hk).mono ?_
      rintro e1 wk ⟨rfl, hb1⟩
      replace hk := hk.step hb1
      clear hb1
      refine hK.out _ _ hk (fun _ => ?_)
      clear hK K
      try simp only [Act.put, List.setIfInBounds_toArray, List.set_cons_zero, List.set_cons_succ]
      refine wpAnyH_ready (rs := [9]) (by decide +kernel) (by simp) ?_
      refine AllReadyH.cons (o := { dst := some 49, op := Op.call { callee := Callee.value (Operand.func 36), args := #[Operand.tmp 42, Operand.tmp 44, Operand.tmp 45, Operand.tmp 46, Operand.tmp 47, Operand.tmp 48], argTypes := #[42, 3, 3, 42, 30, 3] }, type := 4, pos := "clash.go:30", after := #[{ on := 2, ground := Ground.data }, { on := 4, ground := Ground.data }, { on := 5, ground := Ground.data }, { on := 6, ground := Ground.data }, { on := 7, ground := Ground.data }, { on := 8, ground := Ground.data }, { on := 2, ground := Ground.chain }], guard := none }) rfl (fun K hK => ?_) AllReadyH.nil
      go_simp
      refine (HCK.out _ hk).mono ?_
      rintro e1 wk ⟨rfl, hb1⟩
      replace hk := hk.step hb1
      clear hb1
      refine hK.out _ _ hk (fun _ => ?_)
      clear hK K
      try simp only [Act.put, List.setIfInBounds_toArray, List.set_cons_zero, List.set_cons_succ]
      refine wpAnyH_take (i := 10) (oi := { dst := some 50, op := Op.unOp UnOp.not 4 (Operand.tmp 49), type := 4, pos := "clash.go:30", after := #[{ on := 9, ground := Ground.data }], guard := none }) (v := ?vcp48) rfl (by kernel_rfl) (by kernel_rfl) (by kernel_rfl) (fun _ _ _ h => h) (Or.inl ⟨by rfl, ?ycp48⟩) hk ?rcp48
      case ycp48 => (intro w hSw; (try dsimp only at hSw); go_simp; first | done | with_reducible rfl)
      simp only [Act.put, List.setIfInBounds_toArray, List.set_cons_zero, List.set_cons_succ]
      refine wpAnyH_done (by decide +kernel) ?_ _
      clear HRT HCK
      cases cb with
      | false =>
        have HNO : Bx (mustP T (j : Int) lf P x = false) := HMU
        have hC := hk.c0
        have hbd := cls_build
        clear hk HPM HMU HT1 HT2
        obtain ⟨HTH, HST, HBS⟩ := c0_end hC #[.slice none 0 0, .slice none 0 0] rfl
        clear hC
        go_wp2_with (refine wpList_store_mid rfl 25 (.tmp 10) (.tmp 51) rfl R 0 #[.slice none 0 0, .slice none 0 0] rfl rfl ?ht cls_info (cls_one ..) ?_; (case ht => exact HTH.out))
        exact bodyPost_ret (v := .tuple #[.agg #[.slice none 0 0, .slice none 0 0], .bool false]) (results_ct25 rfl _ _ R #[.slice none 0 0, .slice none 0 0] _ rfl rfl HST.out cls_info) rfl ⟨cans_no HNO.out, HBS.out⟩
      | true =>
        have HYES : Bx (mustP T (j : Int) lf P x = true) := HMU
        have hcell := (hk.c0.low.cell (p := ⟨b, off + j, none⟩) hblt).trans hcell0
        go_wp2_with fail
        refine (HT1.out _ hk.c0.low).mono ?_
        rintro e w11 ⟨a6, c6, rfl, hB6, hn6, hb11⟩
        have hR9 := hk.c0.size
        have hne6 : ∀ p, a6 = some p → p.block ≠ R := fun p hp => by have := hn6 p hp; omega
        have hk11 := hk.step hb11
        clear hk hn6 hb11 hcell HT1
        go_wp2_with fail
        refine (HT2.out _ hk11.c0.low).mono ?_
        rintro e w12 ⟨a7, c7, rfl, hB7, hn7, hb12⟩
        have hR11 := hk11.c0.size
        have hne7 : ∀ p, a7 = some p → p.block ≠ R := fun p hp => by have := hn7 p hp; omega
        have hk12 := hk11.step hb12
        replace hB6 := hB6.below hb12
        clear hk11 hn7 hb12 HT2 hR9 hR11
        have hb13 : Below w12.heap.size w12 (w12.alloc (.cells #[.slice a6 (1 + li) c6, .slice a7 (1 + ll) c7] 25)) := (Below.refl _ _).alloc (Nat.le_refl _) _
        have hk13 := hk12.step hb13
        replace hB6 := hB6.below hb13
        replace hB7 := hB7.below hb13
        have hrf : (w12.alloc (.cells #[.slice a6 (1 + li) c6, .slice a7 (1 + ll) c7] 25)).heap[w12.heap.size]? = some (.cells #[.slice a6 (1 + li) c6, .slice a7 (1 + ll) c7] 25 (0, 0)) := heap_alloc_new _ _
        have HRF : Bx _ := ⟨hrf⟩
        have HK13 : Bx _ := ⟨hk13⟩
        have HB6 : Bx _ := ⟨hB6⟩
        have HB7 : Bx _ := ⟨hB7⟩
        clear hk12 hb13 hrf hk13 hB6 hB7
        go_wp2_with (refine wpList_load_row rfl 25 (.tmp 14) rfl w12.heap.size rfl 25 #[.slice a6 (1 + li) c6, .slice a7 (1 + ll) c7] (0, 0) _ HRF.out Tryd.underlying25 rfl cls_info ?_)
        have hk13 := HK13.out
        have hB6 := HB6.out
        have hB7 := HB7.out
        have hrf := HRF.out
        clear HK13 HB6 HB7 HRF
        generalize w12.alloc (.cells #[.slice a6 (1 + li) c6, .slice a7 (1 + ll) c7] 25) = w13 at hk13 hB6 hB7 hrf ⊢
        generalize w12.heap.size = F at hrf ⊢
        refine (is_any a6 a7 (1 + li) (1 + ll) c6 c7 (0 :: tj) (0 :: lf) x _ hB6 hB7 (htab.below hk13.c0.low) (by omega) (by omega)).mono ?_
        rintro e w14 ⟨rfl, hb14⟩
        have hk14 := hk13.step hb14
        have HRF : Bx _ := ⟨row_step hrf hb14⟩
        replace hB6 := hB6.below hb14
        replace hB7 := hB7.below hb14
        clear hk13 hrf hb14
        cases hcl : clashB (0 :: tj) (0 :: lf) x with
        | true =>
          obtain ⟨HTH, HST, HBS⟩ := c0_end hk14.c0 #[.slice a6 (1 + li) c6, .slice a7 (1 + ll) c7] rfl
          have HB6 : Bx _ := ⟨bts_put hB6 hne6 (#[.slice a6 (1 + li) c6, .slice a7 (1 + ll) c7] : Array Value).toList⟩
          have HB7 : Bx _ := ⟨bts_put hB7 hne7 (#[.slice a6 (1 + li) c6, .slice a7 (1 + ll) c7] : Array Value).toList⟩
          have HCL : Bx _ := ⟨hcl⟩
          clear hk14 hB6 hB7 hcl HPM
          go_wp2_with (first
            | (refine wpList_load_row rfl 25 (.tmp 14) rfl F rfl 25 #[.slice a6 (1 + li) c6, .slice a7 (1 + ll) c7] (0, 0) _ HRF.out Tryd.underlying25 rfl cls_info ?_)
            | (refine wpList_store_mid rfl 25 (.tmp 10) (.tmp 63) rfl R 0 #[.slice a6 (1 + li) c6, .slice a7 (1 + ll) c7] rfl rfl ?ht cls_info (cls_one ..) ?_; (case ht => exact HTH.out)))
          exact bodyPost_ret (v := .tuple #[.agg #[.slice a6 (1 + li) c6, .slice a7 (1 + ll) c7], .bool true]) (results_ct25 rfl _ _ R #[.slice a6 (1 + li) c6, .slice a7 (1 + ll) c7] _ rfl rfl HST.out cls_info) rfl ⟨cans_yes HYES.out HB6.out HB7.out (by omega) (by omega) HCL.out, HBS.out⟩
        | false =>
          obtain ⟨hlk, hol, A, B, hcAB⟩ := HPM.out (by first | rfl | trivial) hcl
          have HLK : Bx (lp = (stepsL len j).length) := ⟨hlk⟩
          have HCAB : Bx _ := ⟨hcAB⟩
          clear hlk
          have HAB : Bx (clashB A B x = true) := ⟨climb_some x _ _ _ _ _ A B hcAB⟩
          obtain ⟨lb, lo, rfl, _, _⟩ := hk14.lv.spot (by omega)
          have HPA : Bx (∀ W, PS R Vs sh (some ⟨lb, lo, none⟩) len lc L w W → Calls Tryd.prog 39 #[.slice (some ⟨lb, lo, none⟩) len lc, .int .i64 j, .int .i64 x] W fun e w' => ∃ ao co, e = .returned (.tuple #[.slice ao lp co, .int .i64 0]) ∧ Dgs w' ao lp co (pathL L j x) ∧ Below W.heap.size W w') := ⟨fun W hW => by
            have h := path_any _ len lc L (j : Int) x W hW.lv (htab.below hW.c0.low) (by omega)
            have hLl := hW.lv.len_eq
            rw [show pE len (j : Int) = 0 from if_pos ⟨by omega, by omega⟩, show pV L (j : Int) x = pathL L j x from by unfold pV; rw [if_pos ⟨by omega, by omega⟩]; rfl, hol] at h
            refine h.mono ?_
            rintro e w' ⟨v, rfl, ho, hb⟩
            obtain ⟨ao, co, rfl, hD⟩ := Dgs.of_owns ho (pathL_dg _ L j x (Nat.le_refl _) hLd)
            exact ⟨ao, co, rfl, hD, hb⟩⟩
          have hjl : j < len := hj
          clear HRF hB6 hB7 HPM hcl hne6 hne7 hcAB hol
          go_wp2_with fail
          refine (HPA.out _ hk14).mono ?_
          rintro e w15 ⟨ao, co, rfl, hOW, hb15⟩
          have hk15 := hk14.step hb15
          clear hk14 hb15 HPA
          generalize pathL L j x = OW at hOW HCAB
          have HW1 : Bx (∀ W, Dgs W ao lp co OW → Calls Tryd.prog 41 #[.agg (bv lj).toArray, .slice ao lp co] W fun e w' => ∃ a' c', e = .returned (.slice a' (1 + lp) c') ∧ Dgs w' a' (1 + lp) c' (lj :: OW) ∧ Below W.heap.size W w') := ⟨fun W h => way_any lj ao lp co OW W hljd h hlp⟩
          have HW2 : Bx (∀ W, PS R Vs sh (some ⟨lb, lo, none⟩) len lc L w W → Calls Tryd.prog 41 #[.agg (bv sh).toArray, .slice ap lp cp] W fun e w' => ∃ a' c', e = .returned (.slice a' (1 + lp) c') ∧ Dgs w' a' (1 + lp) c' (sh :: P) ∧ Below W.heap.size W w') := ⟨fun W h => way_any sh ap lp cp P W hshd (hP.below h.c0.low) hlp⟩
          have HCB : Bx (∀ a8 c8 a11 c11 W, PS R Vs sh (some ⟨lb, lo, none⟩) len lc L w W → Dgs W a8 (1 + lp) c8 (lj :: OW) → Dgs W a11 (1 + lp) c11 (sh :: P) → Calls Tryd.prog 40 #[.int .i64 len, .int .i64 j, .slice a8 (1 + lp) c8, .slice a11 (1 + lp) c11, .int .i64 x] W fun e w' => ∃ a c b d, e = .returned (.tuple #[.agg #[.slice a 65 c, .slice b 65 d], .bool true]) ∧ Bts w' a 65 c A ∧ Bts w' b 65 d B ∧ Below W.heap.size W w') := ⟨fun a8 c8 a11 c11 W h h8 h11 =>
            climb_any len j lp (1 + lp) a8 a11 c8 c11 lj sh A B OW P x W (by omega) (by omega) hj (Nat.le_of_eq HLK.out) rfl h8 h11 (htab.below h.c0.low) (by rw [List.take_of_length_le (Nat.le_of_eq HLK.out.symm)]; exact HCAB.out)⟩
          have hdL : (Tryd.prog.info? 42).map (·.size) = some (bv lj).length := by rw [bv_length, hljd.1]; exact dig_info
          go_wp2_with fail
          have hk : PS R Vs sh (some ⟨lb, lo, none⟩) len lc L w w15.drew := hk15.drewN 1
          replace hOW : Dgs w15.drew ao lp co OW := hOW.drewN 1
          clear hk15
          refine wp_region_held_drew (S := fun W => PS R Vs sh (some ⟨lb, lo, none⟩) len lc L w W) (by kernel_rfl) hk (fun _ => ?_)
          generalize w15.drew = wk at hk hOW ⊢
          refine wpAnyH_take (i := 0) (oi := { dst := some 71, op := Op.move (Operand.tmp 12), type := 30, pos := "clash.go:37", after := #[], guard := none }) (v := ?vcp101) rfl (by kernel_rfl) (by kernel_rfl) (by kernel_rfl) (fun _ _ _ h => h) (Or.inl ⟨by rfl, ?ycp101⟩) hk ?rcp101
          case ycp101 => (intro w hSw; (try dsimp only at hSw); go_simp; first | done | with_reducible rfl)
          simp only [Act.put, List.setIfInBounds_toArray, List.set_cons_zero, List.set_cons_succ]
          refine wpAnyH_take (i := 1) (oi := { dst := some 72, op := Op.call { callee := Callee.builtin Builtin.len, args := #[Operand.tmp 71], argTypes := #[30] }, type := 3, pos := "clash.go:37", after := #[{ on := 0, ground := Ground.data }], guard := none }) (v := ?vcp102) rfl (by kernel_rfl) (by kernel_rfl) (by kernel_rfl) (fun _ _ _ h => h) (Or.inl ⟨by rfl, ?ycp102⟩) hk ?rcp102
          case ycp102 => (intro w hSw; (try dsimp only at hSw); go_simp; first | done | with_reducible rfl)
          simp only [Act.put, List.setIfInBounds_toArray, List.set_cons_zero, List.set_cons_succ]
          refine wpAnyH_take (i := 2) (oi := { dst := some 73, op := Op.move (Operand.tmp 1), type := 3, pos := "clash.go:37", after := #[], guard := none }) (v := ?vcp103) rfl (by kernel_rfl) (by kernel_rfl) (by kernel_rfl) (fun _ _ _ h => h) (Or.inl ⟨by rfl, ?ycp103⟩) hk ?rcp103
          case ycp103 => (intro w hSw; (try dsimp only at hSw); go_simp; first | done | with_reducible rfl)
          simp only [Act.put, List.setIfInBounds_toArray, List.set_cons_zero, List.set_cons_succ]
          refine wpAnyH_take (i := 3) (oi := { dst := some 74, op := Op.move (Operand.tmp 12), type := 30, pos := "clash.go:37", after := #[], guard := none }) (v := ?vcp104) rfl (by kernel_rfl) (by kernel_rfl) (by kernel_rfl) (fun _ _ _ h => h) (Or.inl ⟨by rfl, ?ycp104⟩) hk ?rcp104
          case ycp104 => (intro w hSw; (try dsimp only at hSw); go_simp; first | done | with_reducible rfl)
          simp only [Act.put, List.setIfInBounds_toArray, List.set_cons_zero, List.set_cons_succ]
          refine wpAnyH_take (i := 4) (oi := { dst := some 75, op := Op.move (Operand.tmp 1), type := 3, pos := "clash.go:37", after := #[], guard := none }) (v := ?vcp105) rfl (by kernel_rfl) (by kernel_rfl) (by kernel_rfl) (fun _ _ _ h => h) (Or.inl ⟨by rfl, ?ycp105⟩) hk ?rcp105
          case ycp105 => (intro w hSw; (try dsimp only at hSw); go_simp; first | done | with_reducible rfl)
          simp only [Act.put, List.setIfInBounds_toArray, List.set_cons_zero, List.set_cons_succ]
          refine wpAnyH_take (i := 5) (oi := { dst := some 76, op := Op.indexAddr 30 (Operand.tmp 74) (Operand.tmp 75), type := 0, pos := "clash.go:37", after := #[{ on := 3, ground := Ground.data }, { on := 4, ground := Ground.data }], guard := none }) (v := ?vcp106) rfl (by kernel_rfl) (by kernel_rfl) (by kernel_rfl) (fun _ _ _ h => h) (Or.inl ⟨by rfl, ?ycp106⟩) hk ?rcp106
          case ycp106 => (intro w hSw; (try dsimp only at hSw); go_simp; first | done | with_reducible rfl)
          simp only [Act.put, List.setIfInBounds_toArray, List.set_cons_zero, List.set_cons_succ]
          refine wpAnyH_take (i := 6) (oi := { dst := some 77, op := Op.load 42 (Operand.tmp 76), type := 42, pos := "clash.go:37", after := #[{ on := 5, ground := Ground.data }], guard := none }) (v := .agg (bv lj).toArray) rfl (by kernel_rfl) (by kernel_rfl) (by kernel_rfl) (fun _ _ _ h => h) (yieldsIf_load_mid (by rfl) 42 (.tmp 76) rfl lb (lo + j * 32) rfl (bv lj) _ (fun W h => PS.elem h hlj hjl) Tryd.underlying42 rfl hdL) hk ?_
          simp only [Act.put, List.setIfInBounds_toArray, List.set_cons_zero, List.set_cons_succ]
          refine wpAnyH_take (i := 7) (oi := { dst := some 78, op := Op.move (Operand.tmp 15), type := 30, pos := "clash.go:37", after := #[], guard := none }) (v := ?vcp107) rfl (by kernel_rfl) (by kernel_rfl) (by kernel_rfl) (fun _ _ _ h => h) (Or.inl ⟨by rfl, ?ycp107⟩) hk ?rcp107
          case ycp107 => (intro w hSw; (try dsimp only at hSw); go_simp; first | done | with_reducible rfl)
          simp only [Act.put, List.setIfInBounds_toArray, List.set_cons_zero, List.set_cons_succ]
          refine wpAnyH_take (i := 9) (oi := { dst := some 80, op := Op.load 42 (Operand.tmp 13), type := 42, pos := "clash.go:37", after := #[], guard := none }) (v := .agg (bv sh).toArray) rfl (by kernel_rfl) (by kernel_rfl) (by kernel_rfl) (fun _ _ _ h => h) (yieldsIf_load_mid (by rfl) 42 (.tmp 13) rfl Vs 0 rfl (bv sh) _ (fun W h => range_row h.vs) Tryd.underlying42 rfl hdS) hk ?_
          simp only [Act.put, List.setIfInBounds_toArray, List.set_cons_zero, List.set_cons_succ]
          refine wpAnyH_take (i := 10) (oi := { dst := some 81, op := Op.move (Operand.tmp 3), type := 30, pos := "clash.go:37", after := #[], guard := none }) (v := ?vcp108) rfl (by kernel_rfl) (by kernel_rfl) (by kernel_rfl) (fun _ _ _ h => h) (Or.inl ⟨by rfl, ?ycp108⟩) hk ?rcp108
          case ycp108 => (intro w hSw; (try dsimp only at hSw); go_simp; first | done | with_reducible rfl)
          simp only [Act.put, List.setIfInBounds_toArray, List.set_cons_zero, List.set_cons_succ]
          refine wpAnyH_take (i := 12) (oi := { dst := some 83, op := Op.move (Operand.tmp 4), type := 3, pos := "clash.go:37", after := #[], guard := none }) (v := ?vcp109) rfl (by kernel_rfl) (by kernel_rfl) (by kernel_rfl) (fun _ _ _ h => h) (Or.inl ⟨by rfl, ?ycp109⟩) hk ?rcp109
          case ycp109 => (intro w hSw; (try dsimp only at hSw); go_simp; first | done | with_reducible rfl)
          simp only [Act.put, List.setIfInBounds_toArray, List.set_cons_zero, List.set_cons_succ]
          refine wpAnyH_ready (rs := [8]) (by decide +kernel) (by simp) ?_
          refine AllReadyH.cons (o := { dst := some 79, op := Op.call { callee := Callee.value (Operand.func 41), args := #[Operand.tmp 77, Operand.tmp 78], argTypes := #[42, 30] }, type := 30, pos := "clash.go:37", after := #[{ on := 6, ground := Ground.data }, { on := 7, ground := Ground.data }], guard := none }) rfl (fun K hK => ?_) AllReadyH.nil
          go_simp
          refine (HW1.out _ hOW).mono ?_
          rintro e1 wk ⟨a8, c8, rfl, hD8, hb1⟩
          replace hk := hk.step hb1
          clear hb1
          refine hK.out _ _ hk (fun _ => ?_)
          clear hK K
          try simp only [Act.put, List.setIfInBounds_toArray, List.set_cons_zero, List.set_cons_succ]
          refine wpAnyH_ready (rs := [11]) (by decide +kernel) (by simp) ?_
          refine AllReadyH.cons (o := { dst := some 82, op := Op.call { callee := Callee.value (Operand.func 41), args := #[Operand.tmp 80, Operand.tmp 81], argTypes := #[42, 30] }, type := 30, pos := "clash.go:37", after := #[{ on := 9, ground := Ground.data }, { on := 10, ground := Ground.data }, { on := 8, ground := Ground.chain }], guard := none }) rfl (fun K hK => ?_) AllReadyH.nil
          go_simp
          refine (HW2.out _ hk).mono ?_
          rintro e1 wk ⟨a11, c11, rfl, hD11, hb1⟩
          replace hk := hk.step hb1
          replace hD8 := hD8.below hb1
          clear hb1
          refine hK.out _ _ hk (fun _ => ?_)
          clear hK K
          try simp only [Act.put, List.setIfInBounds_toArray, List.set_cons_zero, List.set_cons_succ]
          refine wpAnyH_ready (rs := [13]) (by decide +kernel) (by simp) ?_
          refine AllReadyH.cons (o := { dst := some 84, op := Op.call { callee := Callee.value (Operand.func 40), args := #[Operand.tmp 72, Operand.tmp 73, Operand.tmp 79, Operand.tmp 82, Operand.tmp 83], argTypes := #[3, 3, 30, 30, 3] }, type := 34, pos := "clash.go:37", after := #[{ on := 1, ground := Ground.data }, { on := 2, ground := Ground.data }, { on := 8, ground := Ground.data }, { on := 11, ground := Ground.data }, { on := 12, ground := Ground.data }, { on := 11, ground := Ground.chain }], guard := none }) rfl (fun K hK => ?_) AllReadyH.nil
          go_simp
          refine (HCB.out _ _ _ _ _ hk hD8 hD11).mono ?_
          rintro e1 wk ⟨a4, c4, a5, c5, rfl, hB4, hB5, hb1⟩
          replace hk := hk.step hb1
          clear hb1 hD8 hD11
          refine hK.out _ _ hk (fun _ => ?_)
          clear hK K
          try simp only [Act.put, List.setIfInBounds_toArray, List.set_cons_zero, List.set_cons_succ]
          refine wpAnyH_take (i := 14) (oi := { dst := some 85, op := Op.extract (Operand.tmp 84) 0, type := 25, pos := "clash.go:37", after := #[{ on := 13, ground := Ground.data }], guard := none }) (v := ?vcp1010) rfl (by kernel_rfl) (by kernel_rfl) (by kernel_rfl) (fun _ _ _ h => h) (Or.inl ⟨by rfl, ?ycp1010⟩) hk ?rcp1010
          case ycp1010 => (intro w hSw; (try dsimp only at hSw); go_simp; first | done | with_reducible rfl)
          simp only [Act.put, List.setIfInBounds_toArray, List.set_cons_zero, List.set_cons_succ]
          refine wpAnyH_take (i := 15) (oi := { dst := some 86, op := Op.extract (Operand.tmp 84) 1, type := 4, pos := "clash.go:37", after := #[{ on := 13, ground := Ground.data }], guard := none }) (v := ?vcp1011) rfl (by kernel_rfl) (by kernel_rfl) (by kernel_rfl) (fun _ _ _ h => h) (Or.inl ⟨by rfl, ?ycp1011⟩) hk ?rcp1011
          case ycp1011 => (intro w hSw; (try dsimp only at hSw); go_simp; first | done | with_reducible rfl)
          simp only [Act.put, List.setIfInBounds_toArray, List.set_cons_zero, List.set_cons_succ]
          refine wpAnyH_ready (rs := [16]) (by decide +kernel) (by simp) ?_
          refine AllReadyH.cons (o := { dst := none, op := Op.store 25 (Operand.tmp 10) (Operand.tmp 85), type := 0, pos := "clash.go:37", after := #[{ on := 14, ground := Ground.data }, { on := 13, ground := Ground.chain }, { on := 0, ground := Ground.phase }, { on := 1, ground := Ground.phase }, { on := 2, ground := Ground.phase }, { on := 3, ground := Ground.phase }, { on := 4, ground := Ground.phase }, { on := 5, ground := Ground.phase }, { on := 6, ground := Ground.phase }, { on := 7, ground := Ground.phase }, { on := 8, ground := Ground.phase }, { on := 9, ground := Ground.phase }, { on := 10, ground := Ground.phase }, { on := 11, ground := Ground.phase }, { on := 12, ground := Ground.phase }, { on := 13, ground := Ground.phase }, { on := 14, ground := Ground.phase }, { on := 15, ground := Ground.phase }], guard := none }) rfl (fun K hK => ?_) AllReadyH.nil
          rw [if_pos (by rfl)]
          have htr := hk.c0.tr
          refine wp_store_mid 25 (.tmp 10) (.tmp 85) rfl R 0 #[.slice a4 65 c4, .slice a5 65 c5] rfl rfl ?htcp1012 cls_info (cls_one ..) ?_
          case htcp1012 => exact htr.there rfl
          have hst := htr.put (D := #[.slice a4 65 c4, .slice a5 65 c5]) rfl
          replace hB4 := bts_far hB4 htr (by decide) (#[.slice a4 65 c4, .slice a5 65 c5] : Array Value).toList
          replace hB5 := bts_far hB5 htr (by decide) (#[.slice a4 65 c4, .slice a5 65 c5] : Array Value).toList
          replace hk := hk.put hVR hLR #[.slice a4 65 c4, .slice a5 65 c5] rfl
          clear htr
          generalize wk.setCells R 0 (#[.slice a4 65 c4, .slice a5 65 c5] : Array Value).toList = wk at hk hst hB4 hB5 ⊢
          simp only [Act.put]
          refine hK.out _ _ hk (fun _ => ?_)
          clear hK K
          try simp only [Act.put, List.setIfInBounds_toArray, List.set_cons_zero, List.set_cons_succ]
          refine wpAnyH_take (i := 17) (oi := { dst := some 11, op := Op.assign (Operand.tmp 86), type := 4, pos := "clash.go:37", after := #[{ on := 15, ground := Ground.data }, { on := 16, ground := Ground.chain }, { on := 0, ground := Ground.phase }, { on := 1, ground := Ground.phase }, { on := 2, ground := Ground.phase }, { on := 3, ground := Ground.phase }, { on := 4, ground := Ground.phase }, { on := 5, ground := Ground.phase }, { on := 6, ground := Ground.phase }, { on := 7, ground := Ground.phase }, { on := 8, ground := Ground.phase }, { on := 9, ground := Ground.phase }, { on := 10, ground := Ground.phase }, { on := 11, ground := Ground.phase }, { on := 12, ground := Ground.phase }, { on := 13, ground := Ground.phase }, { on := 14, ground := Ground.phase }, { on := 15, ground := Ground.phase }, { on := 16, ground := Ground.phase }], guard := none }) (v := ?vcp1013) rfl (by kernel_rfl) (by kernel_rfl) (by kernel_rfl) (fun _ _ _ h => h) (Or.inl ⟨by rfl, ?ycp1013⟩) hk ?rcp1013
          case ycp1013 => (intro w hSw; (try dsimp only at hSw); go_simp; first | done | with_reducible rfl)
          simp only [Act.put, List.setIfInBounds_toArray, List.set_cons_zero, List.set_cons_succ]
          refine wpAnyH_done (by decide +kernel) ?_ _
          have hlow := hk.c0.low
          clear hk hdL hdS
          go_wp2
          exact bodyPost_ret (v := .tuple #[.agg #[.slice a4 65 c4, .slice a5 65 c5], .bool true]) (results_ct25 rfl _ _ R #[.slice a4 65 c4, .slice a5 65 c5] _ rfl rfl hst cls_info) rfl ⟨cans_yes HYES.out hB4 hB5 (by decide) (by decide) HAB.out, hlow⟩
  · have HNO : Bx (mustP T i lf P x = false) := ⟨by unfold mustP; rw [decide_eq_false (fun h => hin ⟨h.1, by have := h.2.1; omega⟩)]; rfl⟩
    have hbd := cls_build
    clear hT hL hP htab hf hTL
    by_cases h0 : i < 0
    · have g1 : decide (i < 0) = true := by simpa using h0
      clear hin
      go_enter Tryd.func15, Tryd.ntmps15
      obtain ⟨HTH, HST, HBS⟩ := c0_end hC #[.slice none 0 0, .slice none 0 0] rfl
      clear hC
      go_wp2_with (refine wpList_store_mid rfl 25 (.tmp 10) (.tmp 33) rfl w.heap.size 0 #[.slice none 0 0, .slice none 0 0] rfl rfl ?ht cls_info (cls_one ..) ?_; (case ht => exact HTH.out))
      exact bodyPost_ret (v := .tuple #[.agg #[.slice none 0 0, .slice none 0 0], .bool false]) (results_ct25 rfl _ _ w.heap.size #[.slice none 0 0, .slice none 0 0] _ rfl rfl HST.out cls_info) rfl ⟨cans_no HNO.out, HBS.out⟩
    · have g1 : decide (i < 0) = false := by simpa using h0
      have g2 : decide (i ≥ (len : Int)) = true := by simp; omega
      clear hin
      go_enter Tryd.func15, Tryd.ntmps15
      obtain ⟨HTH, HST, HBS⟩ := c0_end hC #[.slice none 0 0, .slice none 0 0] rfl
      clear hC
      go_wp2_with (refine wpList_store_mid rfl 25 (.tmp 10) (.tmp 33) rfl w.heap.size 0 #[.slice none 0 0, .slice none 0 0] rfl rfl ?ht cls_info (cls_one ..) ?_; (case ht => exact HTH.out))
      exact bodyPost_ret (v := .tuple #[.agg #[.slice none 0 0, .slice none 0 0], .bool false]) (results_ct25 rfl _ _ w.heap.size #[.slice none 0 0, .slice none 0 0] _ rfl rfl HST.out cls_info) rfl ⟨cans_no HNO.out, HBS.out⟩
end Go.Proofs.YtfkloilbjfleeaaDoor
