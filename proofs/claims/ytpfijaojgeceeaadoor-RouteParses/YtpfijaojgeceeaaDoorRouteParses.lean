/- For every request the law RouteParses returns true and the request reads as it did (P23.1): what any request asks, or which status it is told; it stays, and what is asked is nobody else's. The library's tables and errors, and the package's table of targets, are as the program's text lays them (the card ties them). -/
import Derived.Test.YtpfijaojgeceeaaDoorTDoor
import Derived.LaidMore
import Derived.Test.YtpfijaojgeceeaaDoorAuaa
import Derived.Test.YtpfijaojgeceeaaDoorRqIn
import Derived.Test.YtpfijaojgeceeaaDoorWCut
import Derived.Test.YtpfijaojgeceeaaDoorRqSame
import Derived.Test.YtpfijaojgeceeaaDoorBuI
import Derived.WalkKit
import Derived.ShutString
import Derived.ChangeOld
import Derived.Below
namespace Go.Proofs.YtpfijaojgeceeaaDoor.routeParses
open Go.ChangeShapes Go.WideShapes Go.ChangeAt Go.RowKit
open Go.ChangeMaps (open_string shut_string)
set_option linter.unusedVariables false

theorem laidOut : laidOutB Tryd.prog = true := by kernel_rfl

theorem asE_self (a : As) : asE a a = true := (asE_iff a a).2 rfl
theorem ctX_twice (x : WX) : ctX (ctX x) = ctX x := ctX_id (ctX_sml x)
theorem bts_own {w : World} {B n c : Nat} {a : Option Addr} {l : List Int} (h : w.ownsRow B 5 1 (.slice a n c) n (bv l)) (hl : Byt l) : Bts w a n c l := by
  obtain ⟨a2, c2, e, hb⟩ := Bts.of_owns h hl
  cases e; exact hb
theorem bts_off {w : World} {g n c : Nat} {a : Option Addr} {l : List Int} {m t k : ByteArray} {q : Option Addr} {e f : Nat} (h : Bts w a n c l) (hn : 0 < n) (hr : w.heap[g]? = some (.cells #[.string m, .string t, .string k, .slice q e f] 24 (0, 0))) : ∀ p, a = some p → p.block ≠ g := by
  intro p hp hg
  obtain ⟨b, off, e1, _, hc⟩ := h.spot hn
  rw [hp] at e1
  cases e1
  have h0 := hc 0 hn
  have hg2 : b = g := hg
  subst hg2
  rw [Nat.add_zero, cell_of_row w b off _ _ (0, 0) hr] at h0
  match off, h0 with
  | 0, h0 => cases h0
  | 1, h0 => cases h0
  | 2, h0 => cases h0
  | 3, h0 => cases h0
  | _ + 4, h0 => simp at h0
theorem bui_drew {B n c : Nat} {a : Option Addr} {l : List Int} {ws wr : World} (h : BuI B a n c l ws wr) : BuI B a n c l ws wr.drew := ⟨h.len, h.own, h.kept.drew⟩
theorem smW_same (x : WX) : smW x x = true := (smW_iff x x).2 rfl

set_option maxRecDepth 100000 in
set_option maxHeartbeats 1000000 in
theorem walk (x : WX) (a0 : Option Addr) (n0 c0 : Nat) (w : World) (hx : Rqs w x a0 n0 c0) (hL : laidMetH Tryd.prog Rows.routeParsesRow.laid w) (hsh : w.ShapedOpen Tryd.prog) :
    Calls Tryd.prog 3 #[reqV x (.slice a0 n0 c0)] w fun e w' => e = .returned (.bool true) ∧ Below w.heap.size w w' := by
  have hL' := plainH hL (by kernel_rfl)
  have hE : RtE w := ⟨tens_at hL' 2 rfl, errs_at hL' 3 4 rfl rfl, rtb_at hL' 5 rfl⟩
  clear hL hL' hsh
  have hR1 := heap_alloc_new w (.cells #[.string x.m, .string x.t, .string x.k, .slice a0 n0 c0] 24)
  have hB1 : Below w.heap.size w (w.alloc (.cells #[.string x.m, .string x.t, .string x.k, .slice a0 n0 c0] 24)) := (Below.refl _ _).alloc (Nat.le_refl _) _
  have hx1 := hx.below hB1
  have HCT : Bx (∀ W, Rqs W x a0 n0 c0 → Calls Tryd.prog 6 #[reqV x (.slice a0 n0 c0)] W fun e w' => ∃ a' c', e = .returned (reqV (ctX x) (.slice a' (ctX x).b.length c')) ∧ Bts w' a' (ctX x).b.length c' (ctX x).b ∧ Below W.heap.size W w') := ⟨fun W h => rcut_any x a0 n0 c0 W h.b h.m h.t h.k⟩
  have HCT2 : Bx (∀ W a c, Bts W a (ctX x).b.length c (ctX x).b → Calls Tryd.prog 6 #[reqV (ctX x) (.slice a (ctX x).b.length c)] W fun e w' => ∃ a' c', e = .returned (reqV (ctX x) (.slice a' (ctX x).b.length c')) ∧ Bts w' a' (ctX x).b.length c' (ctX x).b ∧ Below W.heap.size W w') := ⟨fun W a c h => by
    have h1 := rcut_any (ctX x) a _ c W h (by have := (ctX_sml x).m; omega) (by have := (ctX_sml x).t; omega) (by have := (ctX_sml x).k; omega)
    rw [ctX_twice] at h1; exact h1⟩
  have HSM := Bx.mk (ctX_sml x)
  have HR1 := Bx.mk hR1
  have HB1 := Bx.mk hB1
  have HX1 := Bx.mk hx1
  have HE0 := Bx.mk hE
  clear hE hR1 hB1 hx1 hx
  generalize hy : ctX x = y at *
  clear hy
  unfold reqV at HCT HCT2
  show Calls Tryd.prog 3 #[.agg #[.string x.m, .string x.t, .string x.k, .slice a0 n0 c0]] w fun e w' => e = .returned (.bool true) ∧ Below w.heap.size w w'
  generalize hw1 : w.alloc (.cells #[.string x.m, .string x.t, .string x.k, .slice a0 n0 c0] 24) = w1 at *
  go_enter Tryd.func3, Tryd.ntmps3
  go_upto_region 1 with fail
  clear hw1
  go_upto_region 1 with fail
  go_wp2_with (refine wpList_load_row rfl 24 (.tmp 1) rfl w.heap.size rfl 24 #[.string x.m, .string x.t, .string x.k, .slice a0 n0 c0] (0, 0) _ HR1.out Tryd.underlying24 rfl req_info ?_)
  refine (HCT.out _ HX1.out).mono ?_
  rintro e w2 ⟨ya, yc, rfl, hby, hb2⟩
  have hR2 := (hb2.block _ (Array.getElem?_eq_some_iff.1 HR1.out).1).trans HR1.out
  have HTR : Bx (w2.there w.heap.size 0 4) := ⟨there_row hR2⟩
  have HR3 : Bx ((w2.setCells w.heap.size 0 #[.string y.m, .string y.t, .string y.k, .slice ya y.b.length yc].toList).heap[w.heap.size]? = some (.cells #[.string y.m, .string y.t, .string y.k, .slice ya y.b.length yc] 24 (0, 0))) := ⟨heap_stored hR2 rfl⟩
  have HB3 : Bx (Below w.heap.size w (w2.setCells w.heap.size 0 #[.string y.m, .string y.t, .string y.k, .slice ya y.b.length yc].toList)) := ⟨below_setCells (bstep HB1.out hb2) _ (Nat.le_refl _) _ 0⟩
  have HY3 : Bx (Bts (w2.setCells w.heap.size 0 #[.string y.m, .string y.t, .string y.k, .slice ya y.b.length yc].toList) ya y.b.length yc y.b) := ⟨hby.keep (fun hp q hq => setCells_other (bts_off hby hp hR2 q hq) _ _) (by rw [setCells_size]; exact Nat.le_refl _)⟩
  clear hby hb2 hR2 HX1 HR1 HB1 HCT
  go_upto_region 2 with (refine wpList_store_mid rfl 24 (.tmp 1) (.tmp 10) rfl w.heap.size 0 #[.string y.m, .string y.t, .string y.k, .slice ya y.b.length yc] rfl rfl HTR.out req_info (req_one _ _ _ _ rfl) ?_)
  generalize hw3 : w2.setCells w.heap.size 0 #[.string y.m, .string y.t, .string y.k, .slice ya y.b.length yc].toList = w3 at *
  clear hw3 HTR
  go_wp2_with (refine wpList_load_row rfl 24 (.tmp 1) rfl w.heap.size rfl 24 #[.string y.m, .string y.t, .string y.k, .slice ya y.b.length yc] (0, 0) _ HR3.out Tryd.underlying24 rfl req_info ?_)
  refine (HCT2.out _ _ _ HY3.out).mono ?_
  rintro e w4 ⟨za, zc, rfl, hz4, hb4⟩
  have hN5 := heap_alloc_new w4 (.cells #[.string y.m, .string y.t, .string y.k, .slice za y.b.length zc] 24)
  have hNB5 : Below w4.heap.size w4 (w4.alloc (.cells #[.string y.m, .string y.t, .string y.k, .slice za y.b.length zc] 24)) := (Below.refl _ _).alloc (Nat.le_refl _) _
  go_upto_region 3 with fail
  generalize hw5 : w4.alloc (.cells #[.string y.m, .string y.t, .string y.k, .slice za y.b.length zc] 24) = w5 at *
  clear hw5
  have hb35 : Below w3.heap.size w3 w5 := bstep hb4 hNB5
  have HB5 : Bx (Below w.heap.size w w5) := ⟨bstep HB3.out hb35⟩
  have HRX5 : Bx (w5.heap[w.heap.size]? = some (.cells #[.string y.m, .string y.t, .string y.k, .slice ya y.b.length yc] 24 (0, 0))) := ⟨(hb35.block _ (Array.getElem?_eq_some_iff.1 HR3.out).1).trans HR3.out⟩
  have HY5 : Bx (Bts w5 ya y.b.length yc y.b) := ⟨HY3.out.below hb35⟩
  have HRM5 : Bx (w5.heap[w4.heap.size]? = some (.cells #[.string y.m, .string y.t, .string y.k, .slice za y.b.length zc] 24 (0, 0))) := ⟨hN5⟩
  have HZ5 : Bx (Bts w5 za y.b.length zc y.b) := ⟨hz4.below hNB5⟩
  have HALL : Bx (∀ W, Below w5.heap.size w5 W → RtE W ∧ W.heap[w.heap.size]? = some (.cells #[.string y.m, .string y.t, .string y.k, .slice ya y.b.length yc] 24 (0, 0)) ∧ Bts W ya y.b.length yc y.b ∧ W.heap[w4.heap.size]? = some (.cells #[.string y.m, .string y.t, .string y.k, .slice za y.b.length zc] 24 (0, 0)) ∧ Bts W za y.b.length zc y.b ∧ Below w.heap.size w W) := ⟨fun W h => by
    have h2 := bstep HB5.out h
    exact ⟨HE0.out.below h2, (h.block _ (Array.getElem?_eq_some_iff.1 HRX5.out).1).trans HRX5.out, HY5.out.below h, (h.block _ (Array.getElem?_eq_some_iff.1 HRM5.out).1).trans HRM5.out, HZ5.out.below h, h2⟩⟩
  have HPA : Bx (∀ W a c, RtE W → Bts W a y.b.length c y.b → Calls Tryd.prog 7 #[.agg #[.string y.m, .string y.t, .string y.k, .slice a y.b.length c]] W (ParP (parV y) W)) := ⟨fun W a c h1 h2 => by rw [← rt_par]; exact parse_rt y a _ c W h2 (by have := HSM.out.t; omega) (by have := HSM.out.b; omega) h1⟩
  have HRP : Bx (∀ W a c, Bts W a y.b.length c y.b → Calls Tryd.prog 8 #[.agg #[.string y.m, .string y.t, .string y.k, .slice a y.b.length c]] W (ParP (parV y) W)) := ⟨fun W a c h2 => rparse_any y a _ c W h2 (by have := HSM.out.t; omega) (by have := HSM.out.b; omega)⟩
  generalize parV y = T at *
  obtain ⟨A, code⟩ := T
  clear hb4 hz4 hN5 hNB5 hb35 HR3 HB3 HY3 HCT2 HE0 HRX5 HY5 HB5
  obtain ⟨hE5, _, _, _, _, _⟩ := HALL.out w5 (Below.refl _ _)
  go_wp2_with (refine wpList_load_row rfl 24 (.tmp 3) rfl w4.heap.size rfl 24 #[.string y.m, .string y.t, .string y.k, .slice za y.b.length zc] (0, 0) _ HRM5.out Tryd.underlying24 rfl req_info ?_)
  refine (HPA.out _ _ _ hE5 HZ5.out).mono ?_
  rintro e w6 ⟨pa, pc, rfl, hop, hbp, hb6⟩
  dsimp only at hop hbp ⊢
  clear hE5 HPA HRM5 HZ5
  have hNA7 := heap_alloc_new w6 (.cells (askV A pa A.b.length pc) 27)
  have hNB7 : Below w6.heap.size w6 (w6.alloc (.cells (askV A pa A.b.length pc) 27)) := (Below.refl _ _).alloc (Nat.le_refl _) _
  unfold askV at hNA7 hNB7
  go_upto_region 4 with fail
  generalize hw7 : w6.alloc (.cells #[.int .i64 A.k, .string A.nm, .string A.sp, .slice pa A.b.length pc, .int .i64 A.A, .int .i64 A.B] 27) = w7 at *
  clear hw7
  have hb57 : Below w5.heap.size w5 w7 := bstep hb6 hNB7
  have ho7 := owns_below hop hNB7
  obtain ⟨_, hX7, hY7, _, _, _⟩ := HALL.out w7 hb57
  have HRC := Bx.mk (HRP.out w7 ya yc hY7)
  have HX7 := Bx.mk hX7
  clear hY7 hX7 HRP
  go_wp2_with (refine wpList_load_row rfl 24 (.tmp 1) rfl w.heap.size rfl 24 #[.string y.m, .string y.t, .string y.k, .slice ya y.b.length yc] (0, 0) _ HX7.out Tryd.underlying24 rfl req_info ?_)
  refine HRC.out.mono ?_
  rintro e w8 ⟨qa, qc, rfl, hoq, _, hb8⟩
  dsimp only at hoq ⊢
  have hNC9 := heap_alloc_new w8 (.cells (askV A qa A.b.length qc) 27)
  have hNB9 : Below w8.heap.size w8 (w8.alloc (.cells (askV A qa A.b.length qc) 27)) := (Below.refl _ _).alloc (Nat.le_refl _) _
  unfold askV at hNC9 hNB9
  go_upto_region 5 with fail
  generalize hw9 : w8.alloc (.cells #[.int .i64 A.k, .string A.nm, .string A.sp, .slice qa A.b.length qc, .int .i64 A.A, .int .i64 A.B] 27) = w9 at *
  clear hw9
  have hb79 : Below w7.heap.size w7 w9 := bstep hb8 hNB9
  have ho9 := owns_below ho7 hb79
  have HA9 : Bx (w9.heap[w6.heap.size]? = some (.cells (askV A pa A.b.length pc) 27 (0, 0))) := ⟨(hb79.block _ (Array.getElem?_eq_some_iff.1 hNA7).1).trans hNA7⟩
  have HC9 : Bx (w9.heap[w8.heap.size]? = some (.cells (askV A qa A.b.length qc) 27 (0, 0))) := ⟨hNC9⟩
  have HSC := Bx.mk (rfsame_any A A pa qa A.b.length A.b.length pc qc w9 (bts_own ho9 hbp) ((bts_own hoq hbp).below hNB9))
  rw [asE_self] at HSC
  have HB59 : Bx (Below w5.heap.size w5 w9) := ⟨hb57.trans (hb79.mono hb57.size)⟩
  have HO9 := Bx.mk ho9
  have HPL : Bx (w5.heap.size ≤ w6.heap.size ∧ ∀ q, (Value.slice pa A.b.length pc).ownBlock = some q → q < w6.heap.size) := ⟨hb6.size, fun q hq => (hop.lt q hq).2⟩
  clear hop hNA7 hNB7 hb57 ho7 hb8 hoq hNC9 hNB9 hb79 ho9 HRC HX7 hb6
  have gcode : (code != code) = false := by simp
  go_upto_region 5 with fail
  go_wp2_with (first
    | (refine wpList_load_row rfl 27 (.tmp 4) rfl w6.heap.size rfl 27 (askV A pa A.b.length pc) (0, 0) _ HA9.out Tryd.underlying27 rfl ask_info22 ?_)
    | (refine wpList_load_row rfl 27 (.tmp 6) rfl w8.heap.size rfl 27 (askV A qa A.b.length qc) (0, 0) _ HC9.out Tryd.underlying27 rfl ask_info22 ?_))
  refine HSC.out.mono ?_
  rintro e ws ⟨rfl, hbs⟩
  have HBS : Bx (Below w5.heap.size w5 ws) := ⟨HB59.out.trans (hbs.mono HB59.out.size)⟩
  have HOS : Bx (ws.ownsRow w5.heap.size 5 1 (.slice pa A.b.length pc) A.b.length (bv A.b)) := ⟨owns_below HO9.out hbs⟩
  have HAS : Bx (ws.heap[w6.heap.size]? = some (.cells (askV A pa A.b.length pc) 27 (0, 0))) := ⟨(hbs.block _ (Array.getElem?_eq_some_iff.1 HA9.out).1).trans HA9.out⟩
  clear hbs HSC HO9 HB59 HA9 HC9
  go_wp2_with fail
  have HLN : Bx (A.b.length ≤ 9223372036854775807) := ⟨by
    have h1 := (bts_own HOS.out hbp).le_cap
    have h2 := (bts_own HOS.out hbp).cap_le
    unfold maxLen at h2
    omega⟩
  have HLB : Bx (A.b.length = A.b.length) := ⟨rfl⟩
  have HBI0 : Bx (BuI w5.heap.size pa A.b.length pc A.b ws ws) := ⟨⟨rfl, HOS.out, Kept.refl _ _⟩⟩
  generalize A.b.length = N at *
  clear HLB
  go_loopw [8] (fun i wr => ∃ (k : Nat) (l : List Int), k ≤ N ∧ i = .int .i64 k ∧ Bx (BuI w5.heap.size pa N pc l ws wr)) (fun i _ => N - (intOf i).toNat)
  case atStart => exact ⟨0, _, Nat.zero_le _, rfl, HBI0⟩
  case round =>
    obtain ⟨k, l, hk, rfl, HBU⟩ := hrel
    have hlow : Below w5.heap.size w5 wr := HBU.out.low HBS.out HBS.out.size
    have hAr : wr.heap[w6.heap.size]? = some (.cells (askV A pa N pc) 27 (0, 0)) := (HBU.out.kept.block _ (Array.getElem?_eq_some_iff.1 HAS.out).1 (fun hq => by have := HPL.out.2 _ hq; omega)).trans HAS.out
    have cB : wr.cell? ⟨w6.heap.size, 3, none⟩ = some (.slice pa N pc) := by rw [cell_of_row wr _ 3 _ _ (0, 0) hAr]; rfl
    by_cases hlt : k < N
    · have g1 : (k : Int) < (N : Int) := by omega
      obtain ⟨g, _, e, hg0, hg1⟩ := owns_form HBU.out.own (by omega)
      cases e
      have k0 : wr.cell? ⟨g, k, none⟩ = some (.int .u8 (l.getD k 0)) := by
        rw [HBU.out.own.cellAt k (by omega), bv, List.getElem?_map, List.getElem?_eq_getElem (by rw [HBU.out.len]; exact hlt), List.getD_eq_getElem?_getD, List.getElem?_eq_getElem (by rw [HBU.out.len]; exact hlt)]; rfl
      have f0 := HBU.out.own.frozenAt k
      have hk4 : (k : Int) + 1 ≤ 9223372036854775807 := by have := HLN.out; omega
      generalize l.getD k 0 = z at k0
      have HLT := Bx.mk hlt
      clear hAr hlow hg0 hg1 hlt
      go_wp2_with fail
      go_region
      go_wp2_with fail
      go_roundw
      case rel => exact ⟨k + 1, l.set k _, by have := HLT.out; omega, by go_num, ⟨bui_drew (HBU.out.put _)⟩⟩
      case measure => have := HLT.out; simp [intOf]; omega
    · have g1 : ¬ (k : Int) < (N : Int) := by omega
      obtain ⟨hEr, hXr, hYr, hMr, hZr, hBr⟩ := HALL.out wr hlow
      have HSC := Bx.mk (rsame_any y y za ya y.b.length y.b.length zc yc wr hZr hYr)
      rw [smW_same] at HSC
      unfold reqV at HSC
      have HER := Bx.mk hEr
      have HXR := Bx.mk hXr
      have HMR := Bx.mk hMr
      have HBR := Bx.mk hBr
      clear hEr hXr hYr hMr hZr hBr hAr hlow HBU HBI0 hlt
      go_wp2_with (first
        | (refine wpList_load_row rfl 24 (.tmp 3) rfl w4.heap.size rfl 24 #[.string y.m, .string y.t, .string y.k, .slice za y.b.length zc] (0, 0) _ HMR.out Tryd.underlying24 rfl req_info ?_)
        | (refine wpList_load_row rfl 24 (.tmp 1) rfl w.heap.size rfl 24 #[.string y.m, .string y.t, .string y.k, .slice ya y.b.length yc] (0, 0) _ HXR.out Tryd.underlying24 rfl req_info ?_))
      refine HSC.out.mono ?_
      rintro e wA ⟨rfl, hbA⟩
      have hEA := HER.out.below hbA
      have HBA := Bx.mk (bstep HBR.out hbA)
      clear HSC HER HXR HMR HBR hbA
      go_wp2_with fail
      refine (rtlives_any _ hEA).mono ?_
      rintro e wB ⟨rfl, hbB⟩
      have hfin := bstep HBA.out hbB
      go_wp2_with fail
      go_ret
      exact ⟨rfl, hfin⟩

set_option maxRecDepth 100000 in
/-- what the walk gives, for every argument and every world that holds the table -/
theorem contract (H : Type) (enc : TypeId × Value → H) (W : World) (base : Nat) (args : Array Value) (ds gs : List (DataW H)) (before : List MemPlace)
    (hval0 : ∀ (j : Nat) t v, Tryd.f3.params[j]? = some t → args[j]? = some v → Value.okWide Tryd.prog W .any base t v)
    (hW : DataW.Whole enc Tryd.prog Tryd.f3.params.toList Rows.routeParsesSpec.vars false W args.toList ds gs before) (hL : laidMetH Tryd.prog Rows.routeParsesRow.laid W) (hsh : W.ShapedOpen Tryd.prog) :
    Calls Tryd.prog 3 args W fun e W' => ∃ v, e = .returned v ∧ Rows.routeParsesSpec.post enc Tryd.prog Tryd.f3 false true false false W args v W' := by
  have hval : ∀ (j : Nat) t v, Tryd.f3.params[j]? = some t → args[j]? = some v → Value.okWide Tryd.prog W .any base t v := hval0
  have hW' := hW
  obtain ⟨p, q, hA0, hV, rfl, hfz, hnd⟩ := hW
  have hA : DataW.TrodAll enc Tryd.prog W 0 (fun _ => true) true Tryd.f3.params.toList args.toList ds p := hA0
  rw [Tryd.params3] at hA hval
  obtain ⟨v0, vs0, d0, ds0, p0, q0, hargs, rfl, rfl, h0, r0⟩ := trodAll_cons hA
  obtain ⟨rfl, rfl, rfl⟩ := trodAll_nil r0
  obtain rfl : args = #[v0] := by cases args; simp_all
  obtain ⟨rfl, rfl⟩ := trodVars_none hV
  have k0 := h0
  have lt0 : ∀ x ∈ p0, x.block < W.heap.size := by obtain ⟨m, hm⟩ := k0; exact DataW.trod_lt m _ _ _ hm
  obtain ⟨x, a0, n0, c0, rfl, hx⟩ := open_req (hval 0 24 v0 rfl rfl) h0
  clear hA0 hval0
  refine (walk x a0 n0 c0 W hx hL hsh).mono fun e W' ⟨he, bel⟩ => ?_
  subst he
  exact ⟨_, rfl, _, _, _, [], _, [], hW', trodAll_mk1 (shut_bool Tryd.underlying4 _), (trodAll_cons_mk (Below.trod laidOut (by kernel_rfl) (of_decide_eq_true (by kernel_rfl)) k0 bel lt0) trodAll_mk0), rfl, bel.frame _, fun h => by cases h⟩

set_option maxRecDepth 100000 in
theorem laid_met (os : Os) : laidMet Tryd.prog Rows.routeParsesRow.laid ((World.doorLaid Tryd.prog 2000 os).forCall (fun _ _ => 0) ⟨#[], #[.agg #[.string ⟨#[]⟩, .string ⟨#[]⟩, .string ⟨#[]⟩, .slice none 0 0]], []⟩).memory :=
  laidMet_of_run' 8 (by kernel_rfl) (by kernel_rfl)
set_option maxRecDepth 100000 in
theorem reads (os : Os) {H : Type} (enc : TypeId × Value → H) : ∃ places, DataW.whole enc Tryd.prog ((World.doorLaid Tryd.prog 2000 os).forCall (fun _ _ => 0) ⟨#[], #[.agg #[.string ⟨#[]⟩, .string ⟨#[]⟩, .string ⟨#[]⟩, .slice none 0 0]], []⟩).memory Tryd.f3.params.toList Rows.routeParsesSpec.vars false (#[.agg #[.string ⟨#[]⟩, .string ⟨#[]⟩, .string ⟨#[]⟩, .slice none 0 0]] : Array Value).toList 8 = some ([.agg [.lit (.string []), .lit (.string []), .lit (.string []), .nil]], [], places) :=
  ⟨[], by kernel_rfl⟩
set_option maxRecDepth 100000 in
theorem lifted (os : Os) (started : os.Started) (H : Type) (enc : TypeId × Value → H) (F : Stop.Interp) :
    ReturnsInHanded {} Tryd.checked os 3 .any ((OpenSpec.ofChange Rows.routeParsesSpec).preRow enc Tryd.prog Tryd.f3 Rows.routeParsesRow.domain false Rows.routeParsesRow.laid) (((OpenSpec.ofChange Rows.routeParsesSpec).at F).post enc Tryd.prog Tryd.f3 false true false false) := by
  obtain ⟨places, hx⟩ := reads os enc
  refine returnsInHanded_of_row (C := Tryd.checked) (s := OpenSpec.ofChange Rows.routeParsesSpec) own started (by kernel_rfl) Tryd.func3
    (witness_row_at (enc := enc) (C := Tryd.checked) false (World.doorLaid Tryd.prog 2000 os) #[.agg #[.string ⟨#[]⟩, .string ⟨#[]⟩, .string ⟨#[]⟩, .slice none 0 0]] rfl (by kernel_rfl) (by kernel_rfl) (by kernel_rfl)
      (OpenSpec.preRow_of_cond 8 hx (by kernel_rfl) (fun k hk => by cases hk) (by kernel_rfl) (laid_met os))) ?_
  intro W base args ds gs before hval hW _ _ _ hL hsh _
  exact contract H enc W base args ds gs before hval hW hL hsh
theorem said : Rows.RouteParsesSaid :=
  OpenClaim.holds_of_cond 3 Tryd.f3 rfl rfl rfl rfl rfl rfl rfl ⟨rfl, rfl, rfl, rfl, rfl⟩ rfl rfl rfl rfl rfl (by kernel_rfl) Tryd.func3 (by kernel_rfl)
    (of_decide_eq_true (by kernel_rfl)) (by unfold Func.isWrapper; first | (rw [if_pos (by decide +kernel)]; kernel_rfl) | (rw [if_neg (by decide +kernel)]; exact ⟨rfl, rfl⟩))
    (fun os started H enc _ F => by rw [OpenClaim.pre_eq_preRow]; exact lifted os started H enc F)
theorem plain (f : FuncId) (fn : Func) (hf : Tryd.pinned.checked.prog.funcNamed "inquest/inquestlaw23.RouteParses" = some f) (hfn : Tryd.pinned.checked.prog.funcs[f]? = some fn) :
    true = Tryd.pinned.checked.prog.looks [] ∧ ∀ (j : Nat) t, fn.params[j]? = some t → Tryd.pinned.checked.prog.wantsStandIn t = false := by
  obtain rfl : f = 3 := Option.some.inj ((show Tryd.prog.funcNamed "inquest/inquestlaw23.RouteParses" = some 3 by kernel_rfl).symm.trans hf) |>.symm
  obtain rfl : fn = Tryd.f3 := (Option.some.inj (Tryd.func3.symm.trans hfn)).symm
  refine ⟨by kernel_rfl, fun j t ht => ?_⟩
  rw [Tryd.params3] at ht
  have hall : ([24].all fun u => !Tryd.prog.wantsStandIn u) = true := by kernel_rfl
  have hm : t ∈ [24] := by simpa using Array.mem_of_getElem? ht
  exact (show Tryd.prog.wantsStandIn t = false by simpa using List.all_eq_true.1 hall t hm)
/-- the tied card -/
theorem card : Rows.RouteParsesCardSaid :=
  Claim7.holds_tied_plain_at .later [] _ _ _ _ said (fun _ h => by cases h) (by kernel_rfl) (fun _ h => by cases h) routeParses_row_tie rfl ⟨rfl, rfl⟩ (by kernel_rfl) rfl plain (by kernel_rfl)
end Go.Proofs.YtpfijaojgeceeaaDoor.routeParses
namespace Go.Proofs.YtpfijaojgeceeaaDoor
theorem routeParses_holds : Rows.RouteParsesCardSaid := routeParses.card
#print axioms routeParses_holds
end Go.Proofs.YtpfijaojgeceeaaDoor
