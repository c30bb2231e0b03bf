/- What the document's own Step answers. -/
import Derived.Test.YtbjeeefkbmdmfaaRVDoes
import Derived.Test.YtbjeeefkbmdmfaaLni
import Derived.Test.YtbjeeefkbmdmfaaRCThr
namespace Go.Proofs.Ytbjeeefkbmdmfaa
open Go.RowKit
set_option linter.unusedVariables false

/-- how many were done, as memory has it -/
def usW (w : World) (g : Nat) : Nat := match w.cell? ⟨g, 6, none⟩ with | some (.int _ x) => x.toNat | _ => 0
set_option maxRecDepth 100000 in
theorem Rr.us {w : World} {g : Nat} {v : VS} {ov rt : Int} {j : Nat} (h : Rr w g v (j : Int) ov rt) : usW w g = j := by unfold usW; rw [h.at6.1]; simp
/-- what holds of the document's own run -/
def RI (l : List Ic) (k g : Int) (m : Nat) (RES : Int × List Int × Int × Nat) (v : VS) (j : Nat) (ov rt : Int) : Prop :=
  (ov = 0 ∧ rt = 0 ∧ VI l (thr l).1 v ∧ vmF l k g (m - j) v j = RES) ∨ (ov = 1 ∧ RES = (1, v.c, rt, j)) ∨ (ov = 2 ∧ ∃ c, RES = (2, c, 0, j))
/-- the variables of the document's own step -/
structure SX (w : World) (b o len cap : Nat) (l : List Ic) (s0 s1 s2 s3 : Int) (gs : Nat) (W : World) : Prop where
  ic : Ics W (some ⟨b, o, none⟩) len cap l
  sr : W.heap[gs]? = some (.cells #[.int .i64 s0, .int .i64 s1, .int .i64 s2, .int .i64 s3] 70 (0, 0))
  zr : W.heap[gs + 1]? = some (.cells #[.int .i64 0, .int .i64 0, .int .i64 0, .int .i64 0, .int .i64 0, .int .i64 0, .int .i64 0] 109 (0, 0))
  bl : Below w.heap.size w W
set_option maxRecDepth 100000 in
theorem SX.step {w : World} {b o len cap : Nat} {l : List Ic} {s0 s1 s2 s3 : Int} {gs : Nat} {W W' : World} (h : SX w b o len cap l s0 s1 s2 s3 gs W) {gr : Nat} (hk : Kept (fun j => j = gr) W W') (h1 : gs + 1 < gr) (h2 : w.heap.size = gs) (h3 : b < gs) : SX w b o len cap l s0 s1 s2 s3 gs W' :=
  ⟨h.ic.keep (fun p e hp => by cases e; exact hk.block b hp (by omega)) hk.size, (hk.block gs (Array.getElem?_eq_some_iff.1 h.sr).1 (by omega)).trans h.sr, (hk.block (gs + 1) (Array.getElem?_eq_some_iff.1 h.zr).1 (by omega)).trans h.zr, h.bl.trans (hk.low (B := w.heap.size) (fun k hk => by omega) h.bl.size)⟩
set_option maxRecDepth 100000 in
theorem do1_rt (x : Ic) (k g : Int) (v : VS) : (do1 x k g v).2.1 = 0 → (do1 x k g v).2.2 = 0 := by
  unfold do1
  by_cases h0 : x.o = 0
  · rw [if_pos h0]; exact fun _ => rfl
  rw [if_neg h0]
  by_cases h1 : x.o = 1
  · rw [if_pos h1]; exact fun _ => rfl
  rw [if_neg h1]
  by_cases h2 : x.o = 2
  · rw [if_pos h2]; exact fun _ => rfl
  rw [if_neg h2]
  by_cases h3 : x.o = 3
  · rw [if_pos h3]; exact fun _ => rfl
  rw [if_neg h3]
  by_cases h4 : x.o = 4
  · rw [if_pos h4]; exact fun _ => rfl
  rw [if_neg h4]
  by_cases h5 : x.o = 5
  · rw [if_pos h5]; exact fun _ => rfl
  rw [if_neg h5]
  by_cases h6 : x.o = 6
  · rw [if_pos h6]; exact fun _ => rfl
  rw [if_neg h6]
  by_cases h7 : x.o = 7
  · rw [if_pos h7]; exact fun _ => rfl
  rw [if_neg h7]
  by_cases h15 : x.o = 15
  · rw [if_pos h15]; exact fun _ => rfl
  rw [if_neg h15]
  by_cases h16 : x.o = 16
  · rw [if_pos h16]; exact fun _ => rfl
  rw [if_neg h16]
  by_cases h17 : x.o = 17
  · rw [if_pos h17]; exact fun _ => rfl
  rw [if_neg h17]
  by_cases h18 : x.o = 18
  · rw [if_pos h18]; exact fun e => by cases e
  rw [if_neg h18]
  by_cases h19 : x.o = 19
  · rw [if_pos h19]; exact fun _ => rfl
  rw [if_neg h19]
  cases jnd x.o (tpA v) (tpB v) with
  | some y => exact fun _ => rfl
  | none => exact fun _ => rfl
set_option maxHeartbeats 8000000 in
set_option maxRecDepth 100000 in
theorem refstep_any (a : Option Addr) (len cap : Nat) (l : List Ic) (s0 s1 s2 s3 k g f : Int) (w : World) (h : Ics w a len cap l) (hl : IcsK l) (hs : V64 s0 ∧ V64 s1 ∧ V64 s2 ∧ V64 s3) (hk : V64 k) (hg : V64 g) (hf : V64 f) :
    Calls Try.prog 64 #[.slice a len cap, .agg #[.int .i64 s0, .int .i64 s1, .int .i64 s2, .int .i64 s3], .int .i64 k, .int .i64 g, .int .i64 f] w fun e w' => e = .returned (stC (stpV l [s0, s1, s2, s3] k g f)) ∧ Below w.heap.size w w' := by
  have HL := Bx.mk h
  have HLEN : Bx (l.length = len) := ⟨h.len_eq⟩
  obtain ⟨gs, HGS⟩ : ∃ gs, Bx (gs = w.heap.size) := ⟨_, ⟨rfl⟩⟩
  have HA0 : Bx (Below w.heap.size w ((w.alloc (.cells #[.int .i64 s0, .int .i64 s1, .int .i64 s2, .int .i64 s3] 70)).alloc (.cells #[.int .i64 0, .int .i64 0, .int .i64 0, .int .i64 0, .int .i64 0, .int .i64 0, .int .i64 0] 109)) ∧ ((w.alloc (.cells #[.int .i64 s0, .int .i64 s1, .int .i64 s2, .int .i64 s3] 70)).alloc (.cells #[.int .i64 0, .int .i64 0, .int .i64 0, .int .i64 0, .int .i64 0, .int .i64 0, .int .i64 0] 109)).heap[gs]? = some (.cells #[.int .i64 s0, .int .i64 s1, .int .i64 s2, .int .i64 s3] 70 (0, 0)) ∧ ((w.alloc (.cells #[.int .i64 s0, .int .i64 s1, .int .i64 s2, .int .i64 s3] 70)).alloc (.cells #[.int .i64 0, .int .i64 0, .int .i64 0, .int .i64 0, .int .i64 0, .int .i64 0, .int .i64 0] 109)).heap[gs + 1]? = some (.cells #[.int .i64 0, .int .i64 0, .int .i64 0, .int .i64 0, .int .i64 0, .int .i64 0, .int .i64 0] 109 (0, 0))) := by
    have hb1 : Below w.heap.size w (w.alloc (.cells #[.int .i64 s0, .int .i64 s1, .int .i64 s2, .int .i64 s3] 70)) := (Below.refl _ _).alloc (Nat.le_refl _) _
    have hra := heap_alloc_new w (.cells #[.int .i64 s0, .int .i64 s1, .int .i64 s2, .int .i64 s3] 70)
    have hs1 : (w.alloc (.cells #[.int .i64 s0, .int .i64 s1, .int .i64 s2, .int .i64 s3] 70)).heap.size = gs + 1 := by rw [HGS.out]; simp
    generalize w.alloc (.cells #[.int .i64 s0, .int .i64 s1, .int .i64 s2, .int .i64 s3] 70) = W at hb1 hra hs1 ⊢
    have hb2 : Below W.heap.size W (W.alloc (.cells #[.int .i64 0, .int .i64 0, .int .i64 0, .int .i64 0, .int .i64 0, .int .i64 0, .int .i64 0] 109)) := (Below.refl _ _).alloc (Nat.le_refl _) _
    have hre := heap_alloc_new W (.cells #[.int .i64 0, .int .i64 0, .int .i64 0, .int .i64 0, .int .i64 0, .int .i64 0, .int .i64 0] 109)
    rw [hs1] at hre
    rw [← HGS.out] at hra
    exact ⟨bstep hb1 hb2, (hb2.block gs (by rw [hs1]; omega)).trans hra, hre⟩
  have HGE : Bx (w.heap.size ≤ gs + 1) := ⟨by rw [HGS.out]; omega⟩
  by_cases hok : (thr l).2.2 = 0
  · have HFLW := Bx.mk (thr_flow hok)
    have hln := HFLW.out.1
    have hln2 := HFLW.out.2.1
    rw [HLEN.out] at hln hln2
    rw [stpV_yes hok]
    obtain ⟨m, HMX⟩ : ∃ m : Nat, Bx (f.toNat = m) := ⟨_, ⟨rfl⟩⟩
    rw [HMX.out]
    have hm63 : m ≤ 9223372036854775807 := by rw [← HMX.out]; unfold V64 at hf; omega
    obtain ⟨RES, HRES⟩ : ∃ RES, Bx (vmF l k g m (vs0 [s0, s1, s2, s3]) 0 = RES) := ⟨_, ⟨rfl⟩⟩
    rw [HRES.out]
    have HCN : Bx (∀ q, q < l.length → V64 (l.getD q ic0).n) := ⟨fun q hq => by rw [List.getD_eq_getElem?_getD, List.getElem?_eq_getElem hq]; exact hl _ (List.getElem_mem hq)⟩
    have HVI0 : Bx (VI l (thr l).1 (vs0 [s0, s1, s2, s3])) := ⟨vi_zero HFLW.out.2.2.2 HFLW.out.1 rfl (fun y hy => by
      rcases List.mem_cons.1 hy with e | hy
      · rw [e]; exact hs.1
      rcases List.mem_cons.1 hy with e | hy
      · rw [e]; exact hs.2.1
      rcases List.mem_cons.1 hy with e | hy
      · rw [e]; exact hs.2.2.1
      rcases List.mem_cons.1 hy with e | hy
      · rw [e]; exact hs.2.2.2
      cases hy)⟩
    have HKG := Bx.mk (And.intro hk hg)
    obtain ⟨b, o, rfl, hbl, _⟩ := HL.out.spot (by omega)
    have HBL : Bx (b < gs) := ⟨by rw [HGS.out]; exact hbl⟩
    clear h hs hk hg hl hbl
    go_enter Try.func64, Try.ntmps64
    go_upto_region 1 with fail
    rw [← HGS.out]
    generalize (w.alloc (.cells #[.int .i64 s0, .int .i64 s1, .int .i64 s2, .int .i64 s3] 70)).alloc (.cells #[.int .i64 0, .int .i64 0, .int .i64 0, .int .i64 0, .int .i64 0, .int .i64 0, .int .i64 0] 109) = w0 at HA0 ⊢
    have HL0 := Bx.mk (HL.out.below HA0.out.1)
    go_wp2_with fail
    refine (refcheck15_any _ len cap l w0 HL0.out).mono ?_
    rintro e w1 ⟨rfl, hb1⟩
    rw [hok]
    generalize (thr l).2.1 = pl
    have HSX1 : Bx (SX w b o len cap l s0 s1 s2 s3 gs w1) := ⟨⟨HL0.out.below hb1, up_row _ _ HA0.out.2.1 hb1, up_row _ _ HA0.out.2.2 hb1, bstep HA0.out.1 hb1⟩⟩
    have y0 := cell_of_row _ gs 0 _ _ (0, 0) HSX1.out.sr
    have y1 := cell_of_row _ gs 1 _ _ (0, 0) HSX1.out.sr
    have y2 := cell_of_row _ gs 2 _ _ (0, 0) HSX1.out.sr
    have y3 := cell_of_row _ gs 3 _ _ (0, 0) HSX1.out.sr
    clear hb1 HA0 HL0 HL hok
    go_upto_region 4 with fail
    obtain ⟨gr, HGR⟩ : ∃ gr, Bx (gr = w1.heap.size) := ⟨_, ⟨rfl⟩⟩
    have HB2 : Bx (Below w1.heap.size w1 (w1.alloc (.cells #[.int .i64 s0, .int .i64 s1, .int .i64 s2, .int .i64 s3, .slice none 0 0, .int .i64 0, .int .i64 0, .int .i64 0, .int .i64 0, .int .i64 0] 133))) := ⟨(Below.refl _ _).alloc (Nat.le_refl _) _⟩
    have HG4 : Bx (gs + 1 < gr ∧ w.heap.size = gs) := ⟨by rw [HGR.out]; exact (Array.getElem?_eq_some_iff.1 HSX1.out.zr).1, HGS.out.symm⟩
    have HR2 : Bx (Rr (w1.alloc (.cells #[.int .i64 s0, .int .i64 s1, .int .i64 s2, .int .i64 s3, .slice none 0 0, .int .i64 0, .int .i64 0, .int .i64 0, .int .i64 0, .int .i64 0] 133)) gr (vs0 [s0, s1, s2, s3]) ((0 : Nat) : Int) 0 0) := ⟨by rw [HGR.out]; exact ⟨s0, s1, s2, s3, 0, none, 0, rfl, heap_alloc_new _ _, Ls.empty _, fun p e => by cases e⟩⟩
    have HSX2 : Bx (SX w b o len cap l s0 s1 s2 s3 gs (w1.alloc (.cells #[.int .i64 s0, .int .i64 s1, .int .i64 s2, .int .i64 s3, .slice none 0 0, .int .i64 0, .int .i64 0, .int .i64 0, .int .i64 0, .int .i64 0] 133))) := ⟨HSX1.out.step (gr := gr) (Kept.of_below HB2.out) HG4.out.1 HG4.out.2 HBL.out⟩
    have HNZ : Bx (gr ≠ gs + 1) := ⟨by have := HG4.out.1; omega⟩
    go_wp2_with fail
    rw [← HGR.out]
    generalize w1.alloc (.cells #[.int .i64 s0, .int .i64 s1, .int .i64 s2, .int .i64 s3, .slice none 0 0, .int .i64 0, .int .i64 0, .int .i64 0, .int .i64 0, .int .i64 0] 133) = w2 at HB2 HR2 HSX2 ⊢
    have HRI0 : Bx (RI l k g m RES (vs0 [s0, s1, s2, s3]) 0 0 0) := ⟨.inl ⟨rfl, rfl, HVI0.out, HRES.out⟩⟩
    clear y0 y1 y2 y3 HB2 HSX1 HGR HVI0 HRES
    go_loopw [] (fun wx => ∃ (j : Nat) (v : VS) (ov rt : Int), j ≤ m ∧ Bx (Rr wx gr v (j : Int) ov rt) ∧ Bx (SX w b o len cap l s0 s1 s2 s3 gs wx) ∧ Bx (RI l k g m RES v j ov rt)) (fun wx => m - usW wx gr)
    case atStart => exact ⟨0, _, 0, 0, Nat.zero_le _, HR2, HSX2, HRI0⟩
    case round =>
      clear HR2 HSX2 HRI0
      obtain ⟨j, v, ov, rt, hjm, HR, HSX, HRI⟩ := hrel
      have HUS := Bx.mk HR.out.us
      obtain ⟨p6, _⟩ := HR.out.at6
      obtain ⟨p8, _⟩ := HR.out.at8
      obtain ⟨p5, _⟩ := HR.out.at5
      by_cases hgo : j < m ∧ ov = 0
      · obtain ⟨hlt, rfl⟩ := hgo
        have hjI : (j : Int) < f := by have := HMX.out; omega
        obtain ⟨hvi, hres⟩ : VI l (thr l).1 v ∧ rt = 0 ∧ vmF l k g (m - j) v j = RES := by
          rcases HRI.out with ⟨_, e, h1, h2⟩ | ⟨e, _⟩ | ⟨e, _⟩
          · exact ⟨h1, e, h2⟩
          · cases e
          · cases e
        obtain ⟨rfl, hres⟩ := hres
        have HVI := Bx.mk hvi
        have hpl := hvi.pl
        rw [HLEN.out] at hpl
        obtain ⟨b', o', e, _, z0, z1⟩ := HSX.out.ic.ic v.p hpl
        cases e
        have HFT := Bx.mk (hvi.fit HFLW.out.2.2.2 HFLW.out.2.2.1)
        have HGO := Bx.mk (fun h => HVI.out.step (k := k) (g := g) HFLW.out.2.2.2 HFLW.out.2.2.1 HCN.out HKG.out.1 HKG.out.2 h)
        have hp6 : v.p < 1000000 := by omega
        have hpI : (v.p : Int) < (len : Int) := by omega
        obtain ⟨fm, HFM⟩ : ∃ fm, Bx (m - j = fm + 1) := ⟨m - j - 1, ⟨by omega⟩⟩
        rw [HFM.out] at hres
        have HV0 : Bx ((do1 (l.getD v.p ic0) k g v).2.1 = 0 → vmF l k g fm (do1 (l.getD v.p ic0) k g v).1 (j + 1) = RES) := ⟨fun e => by rw [← hres]; exact (vmF_go e).symm⟩
        have HV1 : Bx ((do1 (l.getD v.p ic0) k g v).2.1 = 1 → RES = (1, (do1 (l.getD v.p ic0) k g v).1.c, (do1 (l.getD v.p ic0) k g v).2.2, j + 1)) := ⟨fun e => by rw [← hres]; exact vmF_ans e⟩
        have HV2 : Bx ((do1 (l.getD v.p ic0) k g v).2.1 = 2 → RES = (2, v.c, 0, j + 1)) := ⟨fun e => by rw [← hres]; exact vmF_ref e⟩
        have HOV := Bx.mk (do1_over (l.getD v.p ic0) k g v)
        have HS8 := Bx.mk hvi.mx
        have HRT : Bx ((do1 (l.getD v.p ic0) k g v).2.1 = 0 → (do1 (l.getD v.p ic0) k g v).2.2 = 0) := ⟨do1_rt _ _ _ _⟩
        generalize l.getD v.p ic0 = x at z0 z1 HFT HGO HV0 HV1 HV2 HOV HRT
        obtain ⟨oo, nn⟩ := x
        simp only at z0 z1
        obtain ⟨D, HDD⟩ : ∃ D, Bx (do1 ⟨oo, nn⟩ k g v = D) := ⟨_, ⟨rfl⟩⟩
        rw [HDD.out] at HGO HV0 HV1 HV2 HOV HRT
        clear hvi hres HRI
        go_wp2_with fail
        refine (does_any gr oo nn v k g (j : Int) _ HR.out HFT.out HS8.out hp6 (by omega)).mono ?_
        rintro e w5 ⟨rfl, ⟨v', hr5, hc5, hv5⟩, hk5⟩
        rw [HDD.out] at hr5 hc5 hv5
        have HSX5 := Bx.mk (HSX.out.step (gr := gr) hk5 HG4.out.1 HG4.out.2 HBL.out)
        have HR5 : Bx (Rr w5 gr v' ((j + 1 : Nat) : Int) D.2.1 D.2.2) := ⟨hr5⟩
        have HUS5 := Bx.mk HR5.out.us
        have HRI5 : Bx (RI l k g m RES v' (j + 1) D.2.1 D.2.2) := ⟨by
          rcases HOV.out with e | e | e
          · refine .inl ⟨e, HRT.out e, by rw [hv5 e]; exact HGO.out e, ?_⟩
            rw [hv5 e, show m - (j + 1) = fm from by have := HFM.out; omega]
            exact HV0.out e
          · exact .inr (.inl ⟨e, by rw [HV1.out e, hc5]⟩)
          · exact .inr (.inr ⟨e, _, HV2.out e⟩)⟩
        clear hr5 hc5 hv5 hk5 p5 p6 p8 z0 z1 HR HSX HV0 HV1 HV2 HOV HGO HFT HRT HDD
        go_wp2_with fail
        go_roundw
        case rel => exact ⟨j + 1, v', D.2.1, D.2.2, by omega, HR5, HSX5, HRI5⟩
        case measure => rw [HUS.out, HUS5.out]; omega
      · obtain ⟨c0, c1, c2, c3, kz, st, cp, hvc, hrow, _⟩ := HR.out.ex
        have HVC := Bx.mk hvc
        have HROW := Bx.mk hrow
        have HZ := Bx.mk HSX.out.zr
        obtain ⟨Qs, HQ0⟩ : ∃ Qs : World → Prop, Bx (Qs = fun W => W.heap[gs]? = some (.cells #[.int .i64 s0, .int .i64 s1, .int .i64 s2, .int .i64 s3] 70 (0, 0)) ∧ W.heap[gr]? = some (.cells #[.int .i64 c0, .int .i64 c1, .int .i64 c2, .int .i64 c3, .slice st v.s.length cp, .int .i64 v.p, .int .i64 (j : Int), .int .i64 kz, .int .i64 ov, .int .i64 rt] 133 (0, 0))) := ⟨_, ⟨rfl⟩⟩
        have HQS : Bx (∀ W, Qs W → W.heap[gs]? = some (.cells #[.int .i64 s0, .int .i64 s1, .int .i64 s2, .int .i64 s3] 70 (0, 0))) := ⟨fun W h => by rw [HQ0.out] at h; exact h.1⟩
        have HQR : Bx (∀ W, Qs W → W.heap[gr]? = some (.cells #[.int .i64 c0, .int .i64 c1, .int .i64 c2, .int .i64 c3, .slice st v.s.length cp, .int .i64 v.p, .int .i64 (j : Int), .int .i64 kz, .int .i64 ov, .int .i64 rt] 133 (0, 0))) := ⟨fun W h => by rw [HQ0.out] at h; exact h.2⟩
        have HQI : Bx (∀ W : World, W.heap[gs]? = some (.cells #[.int .i64 s0, .int .i64 s1, .int .i64 s2, .int .i64 s3] 70 (0, 0)) → W.heap[gr]? = some (.cells #[.int .i64 c0, .int .i64 c1, .int .i64 c2, .int .i64 c3, .slice st v.s.length cp, .int .i64 v.p, .int .i64 (j : Int), .int .i64 kz, .int .i64 ov, .int .i64 rt] 133 (0, 0)) → Qs W) := ⟨fun W h1 h2 => by rw [HQ0.out]; exact ⟨h1, h2⟩⟩
        have HHK : Bx (HX Qs w wr.drew) := ⟨⟨HSX.out.bl.drew, by rw [HQ0.out]; exact up_row.and up_row, HQI.out _ HSX.out.sr HROW.out⟩⟩
        clear HQ0 hvc hrow
        by_cases h0 : ov = 0
        · subst h0
          have hjm2 : j = m := by omega
          have hjI : ¬ (j : Int) < f := by have := HMX.out; omega
          have HEND : Bx (∃ c, RES = (3, c, 0, j)) := ⟨by
            rcases HRI.out with ⟨_, e, h1, h2⟩ | ⟨e, _⟩ | ⟨e, _⟩
            · rw [hjm2, Nat.sub_self] at h2; rw [← h2, hjm2]; exact ⟨_, rfl⟩
            · cases e
            · cases e⟩
          obtain ⟨cR, hR⟩ := HEND.out
          replace HEND := Bx.mk hR
          clear hR hgo hjm2
          go_upto_region 12 with fail
          have hk := HHK.out
          have hz : wr.drew.heap[gs + 1]? = some (.cells #[.int .i64 0, .int .i64 0, .int .i64 0, .int .i64 0, .int .i64 0, .int .i64 0, .int .i64 0] 109 (0, 0)) := HZ.out
          clear p5 p6 p8 HHK HZ
          refine wp_region_held_drew (S := fun W => HX Qs w W) (by kernel_rfl) hk (fun _ => ?_)
          generalize wr.drew = wk at hk hz ⊢
          refine wpAnyH_take (i := 0) (oi := { dst := some 76, op := Op.load 70 (Operand.tmp 6), type := 70, pos := "ref.go:128", after := #[], guard := none }) (v := .agg #[.int .i64 s0, .int .i64 s1, .int .i64 s2, .int .i64 s3]) rfl (by kernel_rfl) (by kernel_rfl) (by kernel_rfl) (fun _ _ _ h => h) (Or.inl ⟨by rfl, ?yrst121⟩) hk ?rrst121
          case yrst121 => (intro w hSw; have hrw := HQS.out _ hSw.q; have q0 := cell_of_row _ gs 0 _ _ (0, 0) hrw; have q1 := cell_of_row _ gs 1 _ _ (0, 0) hrw; have q2 := cell_of_row _ gs 2 _ _ (0, 0) hrw; have q3 := cell_of_row _ gs 3 _ _ (0, 0) hrw; clear hSw hrw; go_simp; first | done | with_reducible rfl)
          simp only [Act.put, List.setIfInBounds_toArray, List.set_cons_zero, List.set_cons_succ]
          refine wpAnyH_take (i := 1) (oi := { dst := some 77, op := Op.move (Operand.tmp 13), type := 130, pos := "ref.go:128", after := #[], guard := none }) (v := ?vrst122) rfl (by kernel_rfl) (by kernel_rfl) (by kernel_rfl) (fun _ _ _ h => h) (Or.inl ⟨by rfl, ?yrst122⟩) hk ?rrst122
          case yrst122 => (intro w hSw; (try dsimp only at hSw); go_simp; first | done | with_reducible rfl)
          simp only [Act.put, List.setIfInBounds_toArray, List.set_cons_zero, List.set_cons_succ]
          refine wpAnyH_take (i := 2) (oi := { dst := some 78, op := Op.nilCheck (Operand.tmp 77), type := 0, pos := "ref.go:128", after := #[{ on := 1, ground := Ground.data }], guard := none }) (v := ?vrst123) rfl (by kernel_rfl) (by kernel_rfl) (by kernel_rfl) (fun _ _ _ h => h) (Or.inl ⟨by rfl, ?yrst123⟩) hk ?rrst123
          case yrst123 => (intro w hSw; (try dsimp only at hSw); go_simp; first | done | with_reducible rfl)
          simp only [Act.put, List.setIfInBounds_toArray, List.set_cons_zero, List.set_cons_succ]
          refine wpAnyH_take (i := 3) (oi := { dst := some 79, op := Op.fieldAddr 133 (Operand.tmp 78) 3, type := 0, pos := "ref.go:128", after := #[{ on := 2, ground := Ground.data }], guard := none }) (v := ?vrst124) rfl (by kernel_rfl) (by kernel_rfl) (by kernel_rfl) (fun _ _ _ h => h) (Or.inl ⟨by rfl, ?yrst124⟩) hk ?rrst124
          case yrst124 => (intro w hSw; (try dsimp only at hSw); go_simp; first | done | with_reducible rfl)
          simp only [Act.put, List.setIfInBounds_toArray, List.set_cons_zero, List.set_cons_succ]
          refine wpAnyH_take (i := 4) (oi := { dst := some 80, op := Op.load 3 (Operand.tmp 79), type := 3, pos := "ref.go:128", after := #[{ on := 3, ground := Ground.data }], guard := none }) (v := ?vrst125) rfl (by kernel_rfl) (by kernel_rfl) (by kernel_rfl) (fun _ _ _ h => h) (Or.inl ⟨by rfl, ?yrst125⟩) hk ?rrst125
          case yrst125 => (intro w hSw; have hcw := cell_of_row _ gr 6 _ _ (0, 0) (HQR.out _ hSw.q); clear hSw; go_simp; first | done | with_reducible rfl)
          simp only [Act.put, List.setIfInBounds_toArray, List.set_cons_zero, List.set_cons_succ]
          refine wpAnyH_take (i := 5) (oi := { dst := some 81, op := Op.build 109 #[(0, Operand.const (Value.int IntKind.i64 3)), (1, Operand.tmp 76), (3, Operand.tmp 80)], type := 109, pos := "ref.go:128", after := #[{ on := 0, ground := Ground.data }, { on := 4, ground := Ground.data }], guard := none }) (v := ?vrst126) rfl (by kernel_rfl) (by kernel_rfl) (by kernel_rfl) (fun _ _ _ h => h) (Or.inl ⟨by rfl, ?yrst126⟩) hk ?rrst126
          case yrst126 => (intro w hSw; (try dsimp only at hSw); go_simp; first | done | with_reducible rfl)
          simp only [Act.put, List.setIfInBounds_toArray, List.set_cons_zero, List.set_cons_succ]
          refine wpAnyH_ready (rs := [6]) (by decide +kernel) (by simp) ?_
          refine AllReadyH.cons (o := { dst := none, op := Op.store 109 (Operand.tmp 10) (Operand.tmp 81), type := 0, pos := "ref.go:128", after := #[{ on := 5, ground := Ground.data }, { on := 0, ground := Ground.phase }, { on := 1, ground := Ground.phase }, { on := 2, ground := Ground.phase }, { on := 3, ground := Ground.phase }, { on := 4, ground := Ground.phase }, { on := 5, ground := Ground.phase }], guard := none }) rfl (fun K hK => ?_) AllReadyH.nil
          rw [if_pos (by rfl)]
          refine wp_store_mid 109 (.tmp 10) (.tmp 81) rfl (gs + 1) 0 #[.int .i64 3, .int .i64 s0, .int .i64 s1, .int .i64 s2, .int .i64 s3, .int .i64 0, .int .i64 (j : Int)] rfl rfl ?htrst127 st_info (st_one 3 s0 s1 s2 s3 0 (j : Int)) ?_
          case htrst127 => exact (show wk.there (gs + 1) 0 7 from there_row hz)
          have hrz := heap_stored (vs := #[.int .i64 3, .int .i64 s0, .int .i64 s1, .int .i64 s2, .int .i64 s3, .int .i64 0, .int .i64 (j : Int)]) hz rfl
          replace hk : HX Qs w (wk.setCells (gs + 1) 0 (#[.int .i64 3, .int .i64 s0, .int .i64 s1, .int .i64 s2, .int .i64 s3, .int .i64 0, .int .i64 (j : Int)] : Array Value).toList) := ⟨below_setCells hk.low (gs + 1) HGE.out _ 0, hk.up, HQI.out _ ((setCells_other (by omega) _ 0).trans (HQS.out _ hk.q)) ((setCells_other HNZ.out _ 0).trans (HQR.out _ hk.q))⟩
          clear hz
          generalize wk.setCells (gs + 1) 0 (#[.int .i64 3, .int .i64 s0, .int .i64 s1, .int .i64 s2, .int .i64 s3, .int .i64 0, .int .i64 (j : Int)] : Array Value).toList = wz at hrz hk ⊢
          simp only [Act.put]
          refine hK.out _ _ hk (fun _ => ?_)
          clear hK K
          try simp only [Act.put, List.setIfInBounds_toArray, List.set_cons_zero, List.set_cons_succ]
          refine wpAnyH_done (by decide +kernel) ?_ _
          go_wp2_with fail
          have r0 := cell_of_row _ (gs + 1) 0 _ _ (0, 0) hrz
          have r1 := cell_of_row _ (gs + 1) 1 _ _ (0, 0) hrz
          have r2 := cell_of_row _ (gs + 1) 2 _ _ (0, 0) hrz
          have r3 := cell_of_row _ (gs + 1) 3 _ _ (0, 0) hrz
          have r4 := cell_of_row _ (gs + 1) 4 _ _ (0, 0) hrz
          have r5 := cell_of_row _ (gs + 1) 5 _ _ (0, 0) hrz
          have r6 := cell_of_row _ (gs + 1) 6 _ _ (0, 0) hrz
          exact bodyPost_ret (v := .agg #[.int .i64 3, .int .i64 s0, .int .i64 s1, .int .i64 s2, .int .i64 s3, .int .i64 0, .int .i64 (j : Int)]) (by simp [results, Try.results64, go_sem, r0, r1, r2, r3, r4, r5, r6]) rfl ⟨by rw [HEND.out]; rfl, hk.low⟩
        · have h0b : (ov == 0) = false := by simpa using h0
          by_cases h1 : ov = 1
          · subst h1
            have HEND : Bx (RES = (1, [c0, c1, c2, c3], rt, j)) := ⟨by
              rcases HRI.out with ⟨e, _⟩ | ⟨_, e⟩ | ⟨e, _⟩
              · cases e
              · rw [e, HVC.out]
              · cases e⟩
            clear hgo h0 h0b
            by_cases hjf : (j : Int) < f
            · go_upto_region 9 with fail
              have hk := HHK.out
              have hz : wr.drew.heap[gs + 1]? = some (.cells #[.int .i64 0, .int .i64 0, .int .i64 0, .int .i64 0, .int .i64 0, .int .i64 0, .int .i64 0] 109 (0, 0)) := HZ.out
              clear p5 p6 p8 HHK HZ
              refine wp_region_held_drew (S := fun W => HX Qs w W) (by kernel_rfl) hk (fun _ => ?_)
              generalize wr.drew = wk at hk hz ⊢
              refine wpAnyH_take (i := 0) (oi := { dst := some 55, op := Op.move (Operand.tmp 13), type := 130, pos := "ref.go:124", after := #[], guard := none }) (v := ?vrst91) rfl (by kernel_rfl) (by kernel_rfl) (by kernel_rfl) (fun _ _ _ h => h) (Or.inl ⟨by rfl, ?yrst91⟩) hk ?rrst91
              case yrst91 => (intro w hSw; (try dsimp only at hSw); go_simp; first | done | with_reducible rfl)
              simp only [Act.put, List.setIfInBounds_toArray, List.set_cons_zero, List.set_cons_succ]
              refine wpAnyH_take (i := 1) (oi := { dst := some 56, op := Op.nilCheck (Operand.tmp 55), type := 0, pos := "ref.go:124", after := #[{ on := 0, ground := Ground.data }], guard := none }) (v := ?vrst92) rfl (by kernel_rfl) (by kernel_rfl) (by kernel_rfl) (fun _ _ _ h => h) (Or.inl ⟨by rfl, ?yrst92⟩) hk ?rrst92
              case yrst92 => (intro w hSw; (try dsimp only at hSw); go_simp; first | done | with_reducible rfl)
              simp only [Act.put, List.setIfInBounds_toArray, List.set_cons_zero, List.set_cons_succ]
              refine wpAnyH_take (i := 2) (oi := { dst := some 57, op := Op.fieldAddr 133 (Operand.tmp 56) 0, type := 0, pos := "ref.go:124", after := #[{ on := 1, ground := Ground.data }], guard := none }) (v := ?vrst93) rfl (by kernel_rfl) (by kernel_rfl) (by kernel_rfl) (fun _ _ _ h => h) (Or.inl ⟨by rfl, ?yrst93⟩) hk ?rrst93
              case yrst93 => (intro w hSw; (try dsimp only at hSw); go_simp; first | done | with_reducible rfl)
              simp only [Act.put, List.setIfInBounds_toArray, List.set_cons_zero, List.set_cons_succ]
              refine wpAnyH_take (i := 3) (oi := { dst := some 58, op := Op.load 70 (Operand.tmp 57), type := 70, pos := "ref.go:124", after := #[{ on := 2, ground := Ground.data }], guard := none }) (v := .agg #[.int .i64 c0, .int .i64 c1, .int .i64 c2, .int .i64 c3]) rfl (by kernel_rfl) (by kernel_rfl) (by kernel_rfl) (fun _ _ _ h => h) (Or.inl ⟨by rfl, ?yrst94⟩) hk ?rrst94
              case yrst94 => (intro w hSw; have hrw := HQR.out _ hSw.q; have q0 := cell_of_row _ gr 0 _ _ (0, 0) hrw; have q1 := cell_of_row _ gr 1 _ _ (0, 0) hrw; have q2 := cell_of_row _ gr 2 _ _ (0, 0) hrw; have q3 := cell_of_row _ gr 3 _ _ (0, 0) hrw; clear hSw hrw; go_simp; first | done | with_reducible rfl)
              simp only [Act.put, List.setIfInBounds_toArray, List.set_cons_zero, List.set_cons_succ]
              refine wpAnyH_take (i := 4) (oi := { dst := some 59, op := Op.move (Operand.tmp 13), type := 130, pos := "ref.go:124", after := #[], guard := none }) (v := ?vrst95) rfl (by kernel_rfl) (by kernel_rfl) (by kernel_rfl) (fun _ _ _ h => h) (Or.inl ⟨by rfl, ?yrst95⟩) hk ?rrst95
              case yrst95 => (intro w hSw; (try dsimp only at hSw); go_simp; first | done | with_reducible rfl)
              simp only [Act.put, List.setIfInBounds_toArray, List.set_cons_zero, List.set_cons_succ]
              refine wpAnyH_take (i := 5) (oi := { dst := some 60, op := Op.nilCheck (Operand.tmp 59), type := 0, pos := "ref.go:124", after := #[{ on := 4, ground := Ground.data }], guard := none }) (v := ?vrst96) rfl (by kernel_rfl) (by kernel_rfl) (by kernel_rfl) (fun _ _ _ h => h) (Or.inl ⟨by rfl, ?yrst96⟩) hk ?rrst96
              case yrst96 => (intro w hSw; (try dsimp only at hSw); go_simp; first | done | with_reducible rfl)
              simp only [Act.put, List.setIfInBounds_toArray, List.set_cons_zero, List.set_cons_succ]
              refine wpAnyH_take (i := 6) (oi := { dst := some 61, op := Op.fieldAddr 133 (Operand.tmp 60) 6, type := 0, pos := "ref.go:124", after := #[{ on := 5, ground := Ground.data }], guard := none }) (v := ?vrst97) rfl (by kernel_rfl) (by kernel_rfl) (by kernel_rfl) (fun _ _ _ h => h) (Or.inl ⟨by rfl, ?yrst97⟩) hk ?rrst97
              case yrst97 => (intro w hSw; (try dsimp only at hSw); go_simp; first | done | with_reducible rfl)
              simp only [Act.put, List.setIfInBounds_toArray, List.set_cons_zero, List.set_cons_succ]
              refine wpAnyH_take (i := 7) (oi := { dst := some 62, op := Op.load 2 (Operand.tmp 61), type := 2, pos := "ref.go:124", after := #[{ on := 6, ground := Ground.data }], guard := none }) (v := ?vrst98) rfl (by kernel_rfl) (by kernel_rfl) (by kernel_rfl) (fun _ _ _ h => h) (Or.inl ⟨by rfl, ?yrst98⟩) hk ?rrst98
              case yrst98 => (intro w hSw; have hcw := cell_of_row _ gr 9 _ _ (0, 0) (HQR.out _ hSw.q); clear hSw; go_simp; first | done | with_reducible rfl)
              simp only [Act.put, List.setIfInBounds_toArray, List.set_cons_zero, List.set_cons_succ]
              refine wpAnyH_take (i := 8) (oi := { dst := some 63, op := Op.move (Operand.tmp 13), type := 130, pos := "ref.go:124", after := #[], guard := none }) (v := ?vrst99) rfl (by kernel_rfl) (by kernel_rfl) (by kernel_rfl) (fun _ _ _ h => h) (Or.inl ⟨by rfl, ?yrst99⟩) hk ?rrst99
              case yrst99 => (intro w hSw; (try dsimp only at hSw); go_simp; first | done | with_reducible rfl)
              simp only [Act.put, List.setIfInBounds_toArray, List.set_cons_zero, List.set_cons_succ]
              refine wpAnyH_take (i := 9) (oi := { dst := some 64, op := Op.nilCheck (Operand.tmp 63), type := 0, pos := "ref.go:124", after := #[{ on := 8, ground := Ground.data }], guard := none }) (v := ?vrst910) rfl (by kernel_rfl) (by kernel_rfl) (by kernel_rfl) (fun _ _ _ h => h) (Or.inl ⟨by rfl, ?yrst910⟩) hk ?rrst910
              case yrst910 => (intro w hSw; (try dsimp only at hSw); go_simp; first | done | with_reducible rfl)
              simp only [Act.put, List.setIfInBounds_toArray, List.set_cons_zero, List.set_cons_succ]
              refine wpAnyH_take (i := 10) (oi := { dst := some 65, op := Op.fieldAddr 133 (Operand.tmp 64) 3, type := 0, pos := "ref.go:124", after := #[{ on := 9, ground := Ground.data }], guard := none }) (v := ?vrst911) rfl (by kernel_rfl) (by kernel_rfl) (by kernel_rfl) (fun _ _ _ h => h) (Or.inl ⟨by rfl, ?yrst911⟩) hk ?rrst911
              case yrst911 => (intro w hSw; (try dsimp only at hSw); go_simp; first | done | with_reducible rfl)
              simp only [Act.put, List.setIfInBounds_toArray, List.set_cons_zero, List.set_cons_succ]
              refine wpAnyH_take (i := 11) (oi := { dst := some 66, op := Op.load 3 (Operand.tmp 65), type := 3, pos := "ref.go:124", after := #[{ on := 10, ground := Ground.data }], guard := none }) (v := ?vrst912) rfl (by kernel_rfl) (by kernel_rfl) (by kernel_rfl) (fun _ _ _ h => h) (Or.inl ⟨by rfl, ?yrst912⟩) hk ?rrst912
              case yrst912 => (intro w hSw; have hcw := cell_of_row _ gr 6 _ _ (0, 0) (HQR.out _ hSw.q); clear hSw; go_simp; first | done | with_reducible rfl)
              simp only [Act.put, List.setIfInBounds_toArray, List.set_cons_zero, List.set_cons_succ]
              refine wpAnyH_take (i := 12) (oi := { dst := some 67, op := Op.build 109 #[(0, Operand.const (Value.int IntKind.i64 1)), (1, Operand.tmp 58), (2, Operand.tmp 62), (3, Operand.tmp 66)], type := 109, pos := "ref.go:124", after := #[{ on := 3, ground := Ground.data }, { on := 7, ground := Ground.data }, { on := 11, ground := Ground.data }], guard := none }) (v := ?vrst913) rfl (by kernel_rfl) (by kernel_rfl) (by kernel_rfl) (fun _ _ _ h => h) (Or.inl ⟨by rfl, ?yrst913⟩) hk ?rrst913
              case yrst913 => (intro w hSw; (try dsimp only at hSw); go_simp; first | done | with_reducible rfl)
              simp only [Act.put, List.setIfInBounds_toArray, List.set_cons_zero, List.set_cons_succ]
              refine wpAnyH_ready (rs := [13]) (by decide +kernel) (by simp) ?_
              refine AllReadyH.cons (o := { dst := none, op := Op.store 109 (Operand.tmp 10) (Operand.tmp 67), type := 0, pos := "ref.go:124", after := #[{ on := 12, ground := Ground.data }, { on := 0, ground := Ground.phase }, { on := 1, ground := Ground.phase }, { on := 2, ground := Ground.phase }, { on := 3, ground := Ground.phase }, { on := 4, ground := Ground.phase }, { on := 5, ground := Ground.phase }, { on := 6, ground := Ground.phase }, { on := 7, ground := Ground.phase }, { on := 8, ground := Ground.phase }, { on := 9, ground := Ground.phase }, { on := 10, ground := Ground.phase }, { on := 11, ground := Ground.phase }, { on := 12, ground := Ground.phase }], guard := none }) rfl (fun K hK => ?_) AllReadyH.nil
              rw [if_pos (by rfl)]
              refine wp_store_mid 109 (.tmp 10) (.tmp 67) rfl (gs + 1) 0 #[.int .i64 1, .int .i64 c0, .int .i64 c1, .int .i64 c2, .int .i64 c3, .int .i64 rt, .int .i64 (j : Int)] rfl rfl ?htrst914 st_info (st_one 1 c0 c1 c2 c3 rt (j : Int)) ?_
              case htrst914 => exact (show wk.there (gs + 1) 0 7 from there_row hz)
              have hrz := heap_stored (vs := #[.int .i64 1, .int .i64 c0, .int .i64 c1, .int .i64 c2, .int .i64 c3, .int .i64 rt, .int .i64 (j : Int)]) hz rfl
              replace hk : HX Qs w (wk.setCells (gs + 1) 0 (#[.int .i64 1, .int .i64 c0, .int .i64 c1, .int .i64 c2, .int .i64 c3, .int .i64 rt, .int .i64 (j : Int)] : Array Value).toList) := ⟨below_setCells hk.low (gs + 1) HGE.out _ 0, hk.up, HQI.out _ ((setCells_other (by omega) _ 0).trans (HQS.out _ hk.q)) ((setCells_other HNZ.out _ 0).trans (HQR.out _ hk.q))⟩
              clear hz
              generalize wk.setCells (gs + 1) 0 (#[.int .i64 1, .int .i64 c0, .int .i64 c1, .int .i64 c2, .int .i64 c3, .int .i64 rt, .int .i64 (j : Int)] : Array Value).toList = wz at hrz hk ⊢
              simp only [Act.put]
              refine hK.out _ _ hk (fun _ => ?_)
              clear hK K
              try simp only [Act.put, List.setIfInBounds_toArray, List.set_cons_zero, List.set_cons_succ]
              refine wpAnyH_done (by decide +kernel) ?_ _
              go_wp2_with fail
              have r0 := cell_of_row _ (gs + 1) 0 _ _ (0, 0) hrz
              have r1 := cell_of_row _ (gs + 1) 1 _ _ (0, 0) hrz
              have r2 := cell_of_row _ (gs + 1) 2 _ _ (0, 0) hrz
              have r3 := cell_of_row _ (gs + 1) 3 _ _ (0, 0) hrz
              have r4 := cell_of_row _ (gs + 1) 4 _ _ (0, 0) hrz
              have r5 := cell_of_row _ (gs + 1) 5 _ _ (0, 0) hrz
              have r6 := cell_of_row _ (gs + 1) 6 _ _ (0, 0) hrz
              exact bodyPost_ret (v := .agg #[.int .i64 1, .int .i64 c0, .int .i64 c1, .int .i64 c2, .int .i64 c3, .int .i64 rt, .int .i64 (j : Int)]) (by simp [results, Try.results64, go_sem, r0, r1, r2, r3, r4, r5, r6]) rfl ⟨by rw [HEND.out]; rfl, hk.low⟩
            · go_upto_region 9 with fail
              have hk := HHK.out
              have hz : wr.drew.heap[gs + 1]? = some (.cells #[.int .i64 0, .int .i64 0, .int .i64 0, .int .i64 0, .int .i64 0, .int .i64 0, .int .i64 0] 109 (0, 0)) := HZ.out
              clear p5 p6 p8 HHK HZ
              refine wp_region_held_drew (S := fun W => HX Qs w W) (by kernel_rfl) hk (fun _ => ?_)
              generalize wr.drew = wk at hk hz ⊢
              refine wpAnyH_take (i := 0) (oi := { dst := some 55, op := Op.move (Operand.tmp 13), type := 130, pos := "ref.go:124", after := #[], guard := none }) (v := ?vrst9b1) rfl (by kernel_rfl) (by kernel_rfl) (by kernel_rfl) (fun _ _ _ h => h) (Or.inl ⟨by rfl, ?yrst9b1⟩) hk ?rrst9b1
              case yrst9b1 => (intro w hSw; (try dsimp only at hSw); go_simp; first | done | with_reducible rfl)
              simp only [Act.put, List.setIfInBounds_toArray, List.set_cons_zero, List.set_cons_succ]
              refine wpAnyH_take (i := 1) (oi := { dst := some 56, op := Op.nilCheck (Operand.tmp 55), type := 0, pos := "ref.go:124", after := #[{ on := 0, ground := Ground.data }], guard := none }) (v := ?vrst9b2) rfl (by kernel_rfl) (by kernel_rfl) (by kernel_rfl) (fun _ _ _ h => h) (Or.inl ⟨by rfl, ?yrst9b2⟩) hk ?rrst9b2
              case yrst9b2 => (intro w hSw; (try dsimp only at hSw); go_simp; first | done | with_reducible rfl)
              simp only [Act.put, List.setIfInBounds_toArray, List.set_cons_zero, List.set_cons_succ]
              refine wpAnyH_take (i := 2) (oi := { dst := some 57, op := Op.fieldAddr 133 (Operand.tmp 56) 0, type := 0, pos := "ref.go:124", after := #[{ on := 1, ground := Ground.data }], guard := none }) (v := ?vrst9b3) rfl (by kernel_rfl) (by kernel_rfl) (by kernel_rfl) (fun _ _ _ h => h) (Or.inl ⟨by rfl, ?yrst9b3⟩) hk ?rrst9b3
              case yrst9b3 => (intro w hSw; (try dsimp only at hSw); go_simp; first | done | with_reducible rfl)
              simp only [Act.put, List.setIfInBounds_toArray, List.set_cons_zero, List.set_cons_succ]
              refine wpAnyH_take (i := 3) (oi := { dst := some 58, op := Op.load 70 (Operand.tmp 57), type := 70, pos := "ref.go:124", after := #[{ on := 2, ground := Ground.data }], guard := none }) (v := .agg #[.int .i64 c0, .int .i64 c1, .int .i64 c2, .int .i64 c3]) rfl (by kernel_rfl) (by kernel_rfl) (by kernel_rfl) (fun _ _ _ h => h) (Or.inl ⟨by rfl, ?yrst9b4⟩) hk ?rrst9b4
              case yrst9b4 => (intro w hSw; have hrw := HQR.out _ hSw.q; have q0 := cell_of_row _ gr 0 _ _ (0, 0) hrw; have q1 := cell_of_row _ gr 1 _ _ (0, 0) hrw; have q2 := cell_of_row _ gr 2 _ _ (0, 0) hrw; have q3 := cell_of_row _ gr 3 _ _ (0, 0) hrw; clear hSw hrw; go_simp; first | done | with_reducible rfl)
              simp only [Act.put, List.setIfInBounds_toArray, List.set_cons_zero, List.set_cons_succ]
              refine wpAnyH_take (i := 4) (oi := { dst := some 59, op := Op.move (Operand.tmp 13), type := 130, pos := "ref.go:124", after := #[], guard := none }) (v := ?vrst9b5) rfl (by kernel_rfl) (by kernel_rfl) (by kernel_rfl) (fun _ _ _ h => h) (Or.inl ⟨by rfl, ?yrst9b5⟩) hk ?rrst9b5
              case yrst9b5 => (intro w hSw; (try dsimp only at hSw); go_simp; first | done | with_reducible rfl)
              simp only [Act.put, List.setIfInBounds_toArray, List.set_cons_zero, List.set_cons_succ]
              refine wpAnyH_take (i := 5) (oi := { dst := some 60, op := Op.nilCheck (Operand.tmp 59), type := 0, pos := "ref.go:124", after := #[{ on := 4, ground := Ground.data }], guard := none }) (v := ?vrst9b6) rfl (by kernel_rfl) (by kernel_rfl) (by kernel_rfl) (fun _ _ _ h => h) (Or.inl ⟨by rfl, ?yrst9b6⟩) hk ?rrst9b6
              case yrst9b6 => (intro w hSw; (try dsimp only at hSw); go_simp; first | done | with_reducible rfl)
              simp only [Act.put, List.setIfInBounds_toArray, List.set_cons_zero, List.set_cons_succ]
              refine wpAnyH_take (i := 6) (oi := { dst := some 61, op := Op.fieldAddr 133 (Operand.tmp 60) 6, type := 0, pos := "ref.go:124", after := #[{ on := 5, ground := Ground.data }], guard := none }) (v := ?vrst9b7) rfl (by kernel_rfl) (by kernel_rfl) (by kernel_rfl) (fun _ _ _ h => h) (Or.inl ⟨by rfl, ?yrst9b7⟩) hk ?rrst9b7
              case yrst9b7 => (intro w hSw; (try dsimp only at hSw); go_simp; first | done | with_reducible rfl)
              simp only [Act.put, List.setIfInBounds_toArray, List.set_cons_zero, List.set_cons_succ]
              refine wpAnyH_take (i := 7) (oi := { dst := some 62, op := Op.load 2 (Operand.tmp 61), type := 2, pos := "ref.go:124", after := #[{ on := 6, ground := Ground.data }], guard := none }) (v := ?vrst9b8) rfl (by kernel_rfl) (by kernel_rfl) (by kernel_rfl) (fun _ _ _ h => h) (Or.inl ⟨by rfl, ?yrst9b8⟩) hk ?rrst9b8
              case yrst9b8 => (intro w hSw; have hcw := cell_of_row _ gr 9 _ _ (0, 0) (HQR.out _ hSw.q); clear hSw; go_simp; first | done | with_reducible rfl)
              simp only [Act.put, List.setIfInBounds_toArray, List.set_cons_zero, List.set_cons_succ]
              refine wpAnyH_take (i := 8) (oi := { dst := some 63, op := Op.move (Operand.tmp 13), type := 130, pos := "ref.go:124", after := #[], guard := none }) (v := ?vrst9b9) rfl (by kernel_rfl) (by kernel_rfl) (by kernel_rfl) (fun _ _ _ h => h) (Or.inl ⟨by rfl, ?yrst9b9⟩) hk ?rrst9b9
              case yrst9b9 => (intro w hSw; (try dsimp only at hSw); go_simp; first | done | with_reducible rfl)
              simp only [Act.put, List.setIfInBounds_toArray, List.set_cons_zero, List.set_cons_succ]
              refine wpAnyH_take (i := 9) (oi := { dst := some 64, op := Op.nilCheck (Operand.tmp 63), type := 0, pos := "ref.go:124", after := #[{ on := 8, ground := Ground.data }], guard := none }) (v := ?vrst9b10) rfl (by kernel_rfl) (by kernel_rfl) (by kernel_rfl) (fun _ _ _ h => h) (Or.inl ⟨by rfl, ?yrst9b10⟩) hk ?rrst9b10
              case yrst9b10 => (intro w hSw; (try dsimp only at hSw); go_simp; first | done | with_reducible rfl)
              simp only [Act.put, List.setIfInBounds_toArray, List.set_cons_zero, List.set_cons_succ]
              refine wpAnyH_take (i := 10) (oi := { dst := some 65, op := Op.fieldAddr 133 (Operand.tmp 64) 3, type := 0, pos := "ref.go:124", after := #[{ on := 9, ground := Ground.data }], guard := none }) (v := ?vrst9b11) rfl (by kernel_rfl) (by kernel_rfl) (by kernel_rfl) (fun _ _ _ h => h) (Or.inl ⟨by rfl, ?yrst9b11⟩) hk ?rrst9b11
              case yrst9b11 => (intro w hSw; (try dsimp only at hSw); go_simp; first | done | with_reducible rfl)
              simp only [Act.put, List.setIfInBounds_toArray, List.set_cons_zero, List.set_cons_succ]
              refine wpAnyH_take (i := 11) (oi := { dst := some 66, op := Op.load 3 (Operand.tmp 65), type := 3, pos := "ref.go:124", after := #[{ on := 10, ground := Ground.data }], guard := none }) (v := ?vrst9b12) rfl (by kernel_rfl) (by kernel_rfl) (by kernel_rfl) (fun _ _ _ h => h) (Or.inl ⟨by rfl, ?yrst9b12⟩) hk ?rrst9b12
              case yrst9b12 => (intro w hSw; have hcw := cell_of_row _ gr 6 _ _ (0, 0) (HQR.out _ hSw.q); clear hSw; go_simp; first | done | with_reducible rfl)
              simp only [Act.put, List.setIfInBounds_toArray, List.set_cons_zero, List.set_cons_succ]
              refine wpAnyH_take (i := 12) (oi := { dst := some 67, op := Op.build 109 #[(0, Operand.const (Value.int IntKind.i64 1)), (1, Operand.tmp 58), (2, Operand.tmp 62), (3, Operand.tmp 66)], type := 109, pos := "ref.go:124", after := #[{ on := 3, ground := Ground.data }, { on := 7, ground := Ground.data }, { on := 11, ground := Ground.data }], guard := none }) (v := ?vrst9b13) rfl (by kernel_rfl) (by kernel_rfl) (by kernel_rfl) (fun _ _ _ h => h) (Or.inl ⟨by rfl, ?yrst9b13⟩) hk ?rrst9b13
              case yrst9b13 => (intro w hSw; (try dsimp only at hSw); go_simp; first | done | with_reducible rfl)
              simp only [Act.put, List.setIfInBounds_toArray, List.set_cons_zero, List.set_cons_succ]
              refine wpAnyH_ready (rs := [13]) (by decide +kernel) (by simp) ?_
              refine AllReadyH.cons (o := { dst := none, op := Op.store 109 (Operand.tmp 10) (Operand.tmp 67), type := 0, pos := "ref.go:124", after := #[{ on := 12, ground := Ground.data }, { on := 0, ground := Ground.phase }, { on := 1, ground := Ground.phase }, { on := 2, ground := Ground.phase }, { on := 3, ground := Ground.phase }, { on := 4, ground := Ground.phase }, { on := 5, ground := Ground.phase }, { on := 6, ground := Ground.phase }, { on := 7, ground := Ground.phase }, { on := 8, ground := Ground.phase }, { on := 9, ground := Ground.phase }, { on := 10, ground := Ground.phase }, { on := 11, ground := Ground.phase }, { on := 12, ground := Ground.phase }], guard := none }) rfl (fun K hK => ?_) AllReadyH.nil
              rw [if_pos (by rfl)]
              refine wp_store_mid 109 (.tmp 10) (.tmp 67) rfl (gs + 1) 0 #[.int .i64 1, .int .i64 c0, .int .i64 c1, .int .i64 c2, .int .i64 c3, .int .i64 rt, .int .i64 (j : Int)] rfl rfl ?htrst9b14 st_info (st_one 1 c0 c1 c2 c3 rt (j : Int)) ?_
              case htrst9b14 => exact (show wk.there (gs + 1) 0 7 from there_row hz)
              have hrz := heap_stored (vs := #[.int .i64 1, .int .i64 c0, .int .i64 c1, .int .i64 c2, .int .i64 c3, .int .i64 rt, .int .i64 (j : Int)]) hz rfl
              replace hk : HX Qs w (wk.setCells (gs + 1) 0 (#[.int .i64 1, .int .i64 c0, .int .i64 c1, .int .i64 c2, .int .i64 c3, .int .i64 rt, .int .i64 (j : Int)] : Array Value).toList) := ⟨below_setCells hk.low (gs + 1) HGE.out _ 0, hk.up, HQI.out _ ((setCells_other (by omega) _ 0).trans (HQS.out _ hk.q)) ((setCells_other HNZ.out _ 0).trans (HQR.out _ hk.q))⟩
              clear hz
              generalize wk.setCells (gs + 1) 0 (#[.int .i64 1, .int .i64 c0, .int .i64 c1, .int .i64 c2, .int .i64 c3, .int .i64 rt, .int .i64 (j : Int)] : Array Value).toList = wz at hrz hk ⊢
              simp only [Act.put]
              refine hK.out _ _ hk (fun _ => ?_)
              clear hK K
              try simp only [Act.put, List.setIfInBounds_toArray, List.set_cons_zero, List.set_cons_succ]
              refine wpAnyH_done (by decide +kernel) ?_ _
              go_wp2_with fail
              have r0 := cell_of_row _ (gs + 1) 0 _ _ (0, 0) hrz
              have r1 := cell_of_row _ (gs + 1) 1 _ _ (0, 0) hrz
              have r2 := cell_of_row _ (gs + 1) 2 _ _ (0, 0) hrz
              have r3 := cell_of_row _ (gs + 1) 3 _ _ (0, 0) hrz
              have r4 := cell_of_row _ (gs + 1) 4 _ _ (0, 0) hrz
              have r5 := cell_of_row _ (gs + 1) 5 _ _ (0, 0) hrz
              have r6 := cell_of_row _ (gs + 1) 6 _ _ (0, 0) hrz
              exact bodyPost_ret (v := .agg #[.int .i64 1, .int .i64 c0, .int .i64 c1, .int .i64 c2, .int .i64 c3, .int .i64 rt, .int .i64 (j : Int)]) (by simp [results, Try.results64, go_sem, r0, r1, r2, r3, r4, r5, r6]) rfl ⟨by rw [HEND.out]; rfl, hk.low⟩
          · obtain ⟨e2, cR, hR⟩ : ov = 2 ∧ ∃ c, RES = (2, c, 0, j) := by
              rcases HRI.out with ⟨e, _⟩ | ⟨e, _⟩ | ⟨e, h⟩
              · exact absurd e h0
              · exact absurd e h1
              · exact ⟨e, h⟩
            subst e2
            have HEND := Bx.mk hR
            clear hgo h0 h0b h1 hR
            by_cases hjf : (j : Int) < f
            · go_upto_region 11 with fail
              have hk := HHK.out
              have hz : wr.drew.heap[gs + 1]? = some (.cells #[.int .i64 0, .int .i64 0, .int .i64 0, .int .i64 0, .int .i64 0, .int .i64 0, .int .i64 0] 109 (0, 0)) := HZ.out
              clear p5 p6 p8 HHK HZ
              refine wp_region_held_drew (S := fun W => HX Qs w W) (by kernel_rfl) hk (fun _ => ?_)
              generalize wr.drew = wk at hk hz ⊢
              refine wpAnyH_take (i := 0) (oi := { dst := some 70, op := Op.load 70 (Operand.tmp 6), type := 70, pos := "ref.go:126", after := #[], guard := none }) (v := .agg #[.int .i64 s0, .int .i64 s1, .int .i64 s2, .int .i64 s3]) rfl (by kernel_rfl) (by kernel_rfl) (by kernel_rfl) (fun _ _ _ h => h) (Or.inl ⟨by rfl, ?yrst111⟩) hk ?rrst111
              case yrst111 => (intro w hSw; have hrw := HQS.out _ hSw.q; have q0 := cell_of_row _ gs 0 _ _ (0, 0) hrw; have q1 := cell_of_row _ gs 1 _ _ (0, 0) hrw; have q2 := cell_of_row _ gs 2 _ _ (0, 0) hrw; have q3 := cell_of_row _ gs 3 _ _ (0, 0) hrw; clear hSw hrw; go_simp; first | done | with_reducible rfl)
              simp only [Act.put, List.setIfInBounds_toArray, List.set_cons_zero, List.set_cons_succ]
              refine wpAnyH_take (i := 1) (oi := { dst := some 71, op := Op.move (Operand.tmp 13), type := 130, pos := "ref.go:126", after := #[], guard := none }) (v := ?vrst112) rfl (by kernel_rfl) (by kernel_rfl) (by kernel_rfl) (fun _ _ _ h => h) (Or.inl ⟨by rfl, ?yrst112⟩) hk ?rrst112
              case yrst112 => (intro w hSw; (try dsimp only at hSw); go_simp; first | done | with_reducible rfl)
              simp only [Act.put, List.setIfInBounds_toArray, List.set_cons_zero, List.set_cons_succ]
              refine wpAnyH_take (i := 2) (oi := { dst := some 72, op := Op.nilCheck (Operand.tmp 71), type := 0, pos := "ref.go:126", after := #[{ on := 1, ground := Ground.data }], guard := none }) (v := ?vrst113) rfl (by kernel_rfl) (by kernel_rfl) (by kernel_rfl) (fun _ _ _ h => h) (Or.inl ⟨by rfl, ?yrst113⟩) hk ?rrst113
              case yrst113 => (intro w hSw; (try dsimp only at hSw); go_simp; first | done | with_reducible rfl)
              simp only [Act.put, List.setIfInBounds_toArray, List.set_cons_zero, List.set_cons_succ]
              refine wpAnyH_take (i := 3) (oi := { dst := some 73, op := Op.fieldAddr 133 (Operand.tmp 72) 3, type := 0, pos := "ref.go:126", after := #[{ on := 2, ground := Ground.data }], guard := none }) (v := ?vrst114) rfl (by kernel_rfl) (by kernel_rfl) (by kernel_rfl) (fun _ _ _ h => h) (Or.inl ⟨by rfl, ?yrst114⟩) hk ?rrst114
              case yrst114 => (intro w hSw; (try dsimp only at hSw); go_simp; first | done | with_reducible rfl)
              simp only [Act.put, List.setIfInBounds_toArray, List.set_cons_zero, List.set_cons_succ]
              refine wpAnyH_take (i := 4) (oi := { dst := some 74, op := Op.load 3 (Operand.tmp 73), type := 3, pos := "ref.go:126", after := #[{ on := 3, ground := Ground.data }], guard := none }) (v := ?vrst115) rfl (by kernel_rfl) (by kernel_rfl) (by kernel_rfl) (fun _ _ _ h => h) (Or.inl ⟨by rfl, ?yrst115⟩) hk ?rrst115
              case yrst115 => (intro w hSw; have hcw := cell_of_row _ gr 6 _ _ (0, 0) (HQR.out _ hSw.q); clear hSw; go_simp; first | done | with_reducible rfl)
              simp only [Act.put, List.setIfInBounds_toArray, List.set_cons_zero, List.set_cons_succ]
              refine wpAnyH_take (i := 5) (oi := { dst := some 75, op := Op.build 109 #[(0, Operand.const (Value.int IntKind.i64 2)), (1, Operand.tmp 70), (3, Operand.tmp 74)], type := 109, pos := "ref.go:126", after := #[{ on := 0, ground := Ground.data }, { on := 4, ground := Ground.data }], guard := none }) (v := ?vrst116) rfl (by kernel_rfl) (by kernel_rfl) (by kernel_rfl) (fun _ _ _ h => h) (Or.inl ⟨by rfl, ?yrst116⟩) hk ?rrst116
              case yrst116 => (intro w hSw; (try dsimp only at hSw); go_simp; first | done | with_reducible rfl)
              simp only [Act.put, List.setIfInBounds_toArray, List.set_cons_zero, List.set_cons_succ]
              refine wpAnyH_ready (rs := [6]) (by decide +kernel) (by simp) ?_
              refine AllReadyH.cons (o := { dst := none, op := Op.store 109 (Operand.tmp 10) (Operand.tmp 75), type := 0, pos := "ref.go:126", after := #[{ on := 5, ground := Ground.data }, { on := 0, ground := Ground.phase }, { on := 1, ground := Ground.phase }, { on := 2, ground := Ground.phase }, { on := 3, ground := Ground.phase }, { on := 4, ground := Ground.phase }, { on := 5, ground := Ground.phase }], guard := none }) rfl (fun K hK => ?_) AllReadyH.nil
              rw [if_pos (by rfl)]
              refine wp_store_mid 109 (.tmp 10) (.tmp 75) rfl (gs + 1) 0 #[.int .i64 2, .int .i64 s0, .int .i64 s1, .int .i64 s2, .int .i64 s3, .int .i64 0, .int .i64 (j : Int)] rfl rfl ?htrst117 st_info (st_one 2 s0 s1 s2 s3 0 (j : Int)) ?_
              case htrst117 => exact (show wk.there (gs + 1) 0 7 from there_row hz)
              have hrz := heap_stored (vs := #[.int .i64 2, .int .i64 s0, .int .i64 s1, .int .i64 s2, .int .i64 s3, .int .i64 0, .int .i64 (j : Int)]) hz rfl
              replace hk : HX Qs w (wk.setCells (gs + 1) 0 (#[.int .i64 2, .int .i64 s0, .int .i64 s1, .int .i64 s2, .int .i64 s3, .int .i64 0, .int .i64 (j : Int)] : Array Value).toList) := ⟨below_setCells hk.low (gs + 1) HGE.out _ 0, hk.up, HQI.out _ ((setCells_other (by omega) _ 0).trans (HQS.out _ hk.q)) ((setCells_other HNZ.out _ 0).trans (HQR.out _ hk.q))⟩
              clear hz
              generalize wk.setCells (gs + 1) 0 (#[.int .i64 2, .int .i64 s0, .int .i64 s1, .int .i64 s2, .int .i64 s3, .int .i64 0, .int .i64 (j : Int)] : Array Value).toList = wz at hrz hk ⊢
              simp only [Act.put]
              refine hK.out _ _ hk (fun _ => ?_)
              clear hK K
              try simp only [Act.put, List.setIfInBounds_toArray, List.set_cons_zero, List.set_cons_succ]
              refine wpAnyH_done (by decide +kernel) ?_ _
              go_wp2_with fail
              have r0 := cell_of_row _ (gs + 1) 0 _ _ (0, 0) hrz
              have r1 := cell_of_row _ (gs + 1) 1 _ _ (0, 0) hrz
              have r2 := cell_of_row _ (gs + 1) 2 _ _ (0, 0) hrz
              have r3 := cell_of_row _ (gs + 1) 3 _ _ (0, 0) hrz
              have r4 := cell_of_row _ (gs + 1) 4 _ _ (0, 0) hrz
              have r5 := cell_of_row _ (gs + 1) 5 _ _ (0, 0) hrz
              have r6 := cell_of_row _ (gs + 1) 6 _ _ (0, 0) hrz
              exact bodyPost_ret (v := .agg #[.int .i64 2, .int .i64 s0, .int .i64 s1, .int .i64 s2, .int .i64 s3, .int .i64 0, .int .i64 (j : Int)]) (by simp [results, Try.results64, go_sem, r0, r1, r2, r3, r4, r5, r6]) rfl ⟨by rw [HEND.out]; rfl, hk.low⟩
            · go_upto_region 11 with fail
              have hk := HHK.out
              have hz : wr.drew.heap[gs + 1]? = some (.cells #[.int .i64 0, .int .i64 0, .int .i64 0, .int .i64 0, .int .i64 0, .int .i64 0, .int .i64 0] 109 (0, 0)) := HZ.out
              clear p5 p6 p8 HHK HZ
              refine wp_region_held_drew (S := fun W => HX Qs w W) (by kernel_rfl) hk (fun _ => ?_)
              generalize wr.drew = wk at hk hz ⊢
              refine wpAnyH_take (i := 0) (oi := { dst := some 70, op := Op.load 70 (Operand.tmp 6), type := 70, pos := "ref.go:126", after := #[], guard := none }) (v := .agg #[.int .i64 s0, .int .i64 s1, .int .i64 s2, .int .i64 s3]) rfl (by kernel_rfl) (by kernel_rfl) (by kernel_rfl) (fun _ _ _ h => h) (Or.inl ⟨by rfl, ?yrst11b1⟩) hk ?rrst11b1
              case yrst11b1 => (intro w hSw; have hrw := HQS.out _ hSw.q; have q0 := cell_of_row _ gs 0 _ _ (0, 0) hrw; have q1 := cell_of_row _ gs 1 _ _ (0, 0) hrw; have q2 := cell_of_row _ gs 2 _ _ (0, 0) hrw; have q3 := cell_of_row _ gs 3 _ _ (0, 0) hrw; clear hSw hrw; go_simp; first | done | with_reducible rfl)
              simp only [Act.put, List.setIfInBounds_toArray, List.set_cons_zero, List.set_cons_succ]
              refine wpAnyH_take (i := 1) (oi := { dst := some 71, op := Op.move (Operand.tmp 13), type := 130, pos := "ref.go:126", after := #[], guard := none }) (v := ?vrst11b2) rfl (by kernel_rfl) (by kernel_rfl) (by kernel_rfl) (fun _ _ _ h => h) (Or.inl ⟨by rfl, ?yrst11b2⟩) hk ?rrst11b2
              case yrst11b2 => (intro w hSw; (try dsimp only at hSw); go_simp; first | done | with_reducible rfl)
              simp only [Act.put, List.setIfInBounds_toArray, List.set_cons_zero, List.set_cons_succ]
              refine wpAnyH_take (i := 2) (oi := { dst := some 72, op := Op.nilCheck (Operand.tmp 71), type := 0, pos := "ref.go:126", after := #[{ on := 1, ground := Ground.data }], guard := none }) (v := ?vrst11b3) rfl (by kernel_rfl) (by kernel_rfl) (by kernel_rfl) (fun _ _ _ h => h) (Or.inl ⟨by rfl, ?yrst11b3⟩) hk ?rrst11b3
              case yrst11b3 => (intro w hSw; (try dsimp only at hSw); go_simp; first | done | with_reducible rfl)
              simp only [Act.put, List.setIfInBounds_toArray, List.set_cons_zero, List.set_cons_succ]
              refine wpAnyH_take (i := 3) (oi := { dst := some 73, op := Op.fieldAddr 133 (Operand.tmp 72) 3, type := 0, pos := "ref.go:126", after := #[{ on := 2, ground := Ground.data }], guard := none }) (v := ?vrst11b4) rfl (by kernel_rfl) (by kernel_rfl) (by kernel_rfl) (fun _ _ _ h => h) (Or.inl ⟨by rfl, ?yrst11b4⟩) hk ?rrst11b4
              case yrst11b4 => (intro w hSw; (try dsimp only at hSw); go_simp; first | done | with_reducible rfl)
              simp only [Act.put, List.setIfInBounds_toArray, List.set_cons_zero, List.set_cons_succ]
              refine wpAnyH_take (i := 4) (oi := { dst := some 74, op := Op.load 3 (Operand.tmp 73), type := 3, pos := "ref.go:126", after := #[{ on := 3, ground := Ground.data }], guard := none }) (v := ?vrst11b5) rfl (by kernel_rfl) (by kernel_rfl) (by kernel_rfl) (fun _ _ _ h => h) (Or.inl ⟨by rfl, ?yrst11b5⟩) hk ?rrst11b5
              case yrst11b5 => (intro w hSw; have hcw := cell_of_row _ gr 6 _ _ (0, 0) (HQR.out _ hSw.q); clear hSw; go_simp; first | done | with_reducible rfl)
              simp only [Act.put, List.setIfInBounds_toArray, List.set_cons_zero, List.set_cons_succ]
              refine wpAnyH_take (i := 5) (oi := { dst := some 75, op := Op.build 109 #[(0, Operand.const (Value.int IntKind.i64 2)), (1, Operand.tmp 70), (3, Operand.tmp 74)], type := 109, pos := "ref.go:126", after := #[{ on := 0, ground := Ground.data }, { on := 4, ground := Ground.data }], guard := none }) (v := ?vrst11b6) rfl (by kernel_rfl) (by kernel_rfl) (by kernel_rfl) (fun _ _ _ h => h) (Or.inl ⟨by rfl, ?yrst11b6⟩) hk ?rrst11b6
              case yrst11b6 => (intro w hSw; (try dsimp only at hSw); go_simp; first | done | with_reducible rfl)
              simp only [Act.put, List.setIfInBounds_toArray, List.set_cons_zero, List.set_cons_succ]
              refine wpAnyH_ready (rs := [6]) (by decide +kernel) (by simp) ?_
              refine AllReadyH.cons (o := { dst := none, op := Op.store 109 (Operand.tmp 10) (Operand.tmp 75), type := 0, pos := "ref.go:126", after := #[{ on := 5, ground := Ground.data }, { on := 0, ground := Ground.phase }, { on := 1, ground := Ground.phase }, { on := 2, ground := Ground.phase }, { on := 3, ground := Ground.phase }, { on := 4, ground := Ground.phase }, { on := 5, ground := Ground.phase }], guard := none }) rfl (fun K hK => ?_) AllReadyH.nil
              rw [if_pos (by rfl)]
              refine wp_store_mid 109 (.tmp 10) (.tmp 75) rfl (gs + 1) 0 #[.int .i64 2, .int .i64 s0, .int .i64 s1, .int .i64 s2, .int .i64 s3, .int .i64 0, .int .i64 (j : Int)] rfl rfl ?htrst11b7 st_info (st_one 2 s0 s1 s2 s3 0 (j : Int)) ?_
              case htrst11b7 => exact (show wk.there (gs + 1) 0 7 from there_row hz)
              have hrz := heap_stored (vs := #[.int .i64 2, .int .i64 s0, .int .i64 s1, .int .i64 s2, .int .i64 s3, .int .i64 0, .int .i64 (j : Int)]) hz rfl
              replace hk : HX Qs w (wk.setCells (gs + 1) 0 (#[.int .i64 2, .int .i64 s0, .int .i64 s1, .int .i64 s2, .int .i64 s3, .int .i64 0, .int .i64 (j : Int)] : Array Value).toList) := ⟨below_setCells hk.low (gs + 1) HGE.out _ 0, hk.up, HQI.out _ ((setCells_other (by omega) _ 0).trans (HQS.out _ hk.q)) ((setCells_other HNZ.out _ 0).trans (HQR.out _ hk.q))⟩
              clear hz
              generalize wk.setCells (gs + 1) 0 (#[.int .i64 2, .int .i64 s0, .int .i64 s1, .int .i64 s2, .int .i64 s3, .int .i64 0, .int .i64 (j : Int)] : Array Value).toList = wz at hrz hk ⊢
              simp only [Act.put]
              refine hK.out _ _ hk (fun _ => ?_)
              clear hK K
              try simp only [Act.put, List.setIfInBounds_toArray, List.set_cons_zero, List.set_cons_succ]
              refine wpAnyH_done (by decide +kernel) ?_ _
              go_wp2_with fail
              have r0 := cell_of_row _ (gs + 1) 0 _ _ (0, 0) hrz
              have r1 := cell_of_row _ (gs + 1) 1 _ _ (0, 0) hrz
              have r2 := cell_of_row _ (gs + 1) 2 _ _ (0, 0) hrz
              have r3 := cell_of_row _ (gs + 1) 3 _ _ (0, 0) hrz
              have r4 := cell_of_row _ (gs + 1) 4 _ _ (0, 0) hrz
              have r5 := cell_of_row _ (gs + 1) 5 _ _ (0, 0) hrz
              have r6 := cell_of_row _ (gs + 1) 6 _ _ (0, 0) hrz
              exact bodyPost_ret (v := .agg #[.int .i64 2, .int .i64 s0, .int .i64 s1, .int .i64 s2, .int .i64 s3, .int .i64 0, .int .i64 (j : Int)]) (by simp [results, Try.results64, go_sem, r0, r1, r2, r3, r4, r5, r6]) rfl ⟨by rw [HEND.out]; rfl, hk.low⟩
  · rw [stpV_no hok]
    have hq : ((thr l).2.2 != 0) = true := by simpa using hok
    clear h hs hk hg hl
    go_enter Try.func64, Try.ntmps64
    go_upto_region 1 with fail
    rw [← HGS.out]
    generalize (w.alloc (.cells #[.int .i64 s0, .int .i64 s1, .int .i64 s2, .int .i64 s3] 70)).alloc (.cells #[.int .i64 0, .int .i64 0, .int .i64 0, .int .i64 0, .int .i64 0, .int .i64 0, .int .i64 0] 109) = w0 at HA0 ⊢
    have HL0 := Bx.mk (HL.out.below HA0.out.1)
    go_wp2_with fail
    refine (refcheck15_any _ len cap l w0 HL0.out).mono ?_
    rintro e w1 ⟨rfl, hb1⟩
    generalize (thr l).2.1 = pl
    generalize (thr l).2.2 = er at hq ⊢
    have HZ1 : Bx (w1.heap[gs + 1]? = some (.cells #[.int .i64 0, .int .i64 0, .int .i64 0, .int .i64 0, .int .i64 0, .int .i64 0, .int .i64 0] 109 (0, 0))) := ⟨up_row _ _ HA0.out.2.2 hb1⟩
    have HBL := Bx.mk (bstep HA0.out.1 hb1)
    have hgz := HZ1.out
    have z0 := cell_of_row _ (gs + 1) 0 _ _ (0, 0) hgz
    have z1 := cell_of_row _ (gs + 1) 1 _ _ (0, 0) hgz
    have z2 := cell_of_row _ (gs + 1) 2 _ _ (0, 0) hgz
    have z3 := cell_of_row _ (gs + 1) 3 _ _ (0, 0) hgz
    have z4 := cell_of_row _ (gs + 1) 4 _ _ (0, 0) hgz
    have z5 := cell_of_row _ (gs + 1) 5 _ _ (0, 0) hgz
    have z6 := cell_of_row _ (gs + 1) 6 _ _ (0, 0) hgz
    have f0 := frozen_of_row _ (gs + 1) 0 _ _ hgz
    have f1 := frozen_of_row _ (gs + 1) 1 _ _ hgz
    have f2 := frozen_of_row _ (gs + 1) 2 _ _ hgz
    have f3 := frozen_of_row _ (gs + 1) 3 _ _ hgz
    have f4 := frozen_of_row _ (gs + 1) 4 _ _ hgz
    have f5 := frozen_of_row _ (gs + 1) 5 _ _ hgz
    have f6 := frozen_of_row _ (gs + 1) 6 _ _ hgz
    clear hb1 HA0 HL0 HL hok hgz
    go_wp2_with fail
    exact bodyPost_ret (v := .agg #[.int .i64 4, .int .i64 0, .int .i64 0, .int .i64 0, .int .i64 0, .int .i64 0, .int .i64 0]) (by simp [results, Try.results64, go_sem, z0, z1, z2, z3, z4, z5, z6]) rfl ⟨rfl, ((((((HBL.out.setCell (p := ⟨gs + 1, 0, none⟩) HGE.out _).setCell (p := ⟨gs + 1, 1, none⟩) HGE.out _).setCell (p := ⟨gs + 1, 2, none⟩) HGE.out _).setCell (p := ⟨gs + 1, 3, none⟩) HGE.out _).setCell (p := ⟨gs + 1, 4, none⟩) HGE.out _).setCell (p := ⟨gs + 1, 5, none⟩) HGE.out _).setCell (p := ⟨gs + 1, 6, none⟩) HGE.out _⟩
end Go.Proofs.Ytbjeeefkbmdmfaa
