/- For every ask the law RoutePrints returns true and the ask reads as it did (P23.2): which request asks anything, or that none does. The library's tables and errors, and the package's table of targets, are as the program's text lays them (the card ties them). -/
import Derived.Test.YtpfijaojgeceeaaDoorTDoor
import Derived.LaidMore
import Derived.Test.YtpfijaojgeceeaaDoorRfPrint
import Derived.Test.YtpfijaojgeceeaaDoorAuac
import Derived.Test.YtpfijaojgeceeaaDoorAuak
import Derived.Test.YtpfijaojgeceeaaDoorAskCut
import Derived.Test.YtpfijaojgeceeaaDoorRqSame
import Derived.WalkKit
import Derived.ShutString
import Derived.ChangeOld
import Derived.Below
namespace Go.Proofs.YtpfijaojgeceeaaDoor.routePrints
open Go.ChangeShapes Go.WideShapes Go.ChangeAt Go.RowKit
open Go.ChangeMaps (open_string shut_string)
set_option linter.unusedVariables false

theorem laidOut : laidOutB Tryd.prog = true := by kernel_rfl

theorem asE_self (a : As) : asE a a = true := (asE_iff a a).2 rfl
theorem smW_same (x : WX) : smW x x = true := (smW_iff x x).2 rfl
theorem ctA_twice (a : As) : ctA (ctA a) = ctA a := ctA_id (ctT_size _ _) (ctT_size _ _) (by show (a.b.take 4200).length ≤ 4200; rw [List.length_take]; omega)
theorem wrt_size {a : As} (hA : V64 a.A) (hB : V64 a.B) (h1 : a.nm.size ≤ 30) (h2 : a.sp.size ≤ 30) : (wrtV a).t.size ≤ 1000000 := by
  unfold wrtV
  cases hf : rtL.find? (fun r => decide (r.k = a.k)) with
  | none => exact Nat.zero_le _
  | some r =>
    show (tgtR r a).size ≤ _
    obtain ⟨j, hj, hjr⟩ := List.getElem_of_mem (List.mem_of_find?_eq_some hf)
    have hj10 : j < 10 := hj
    have e : rtL.getD j rt0 = r := by rw [List.getD_eq_getElem?_getD, List.getElem?_eq_getElem hj]; exact hjr
    obtain ⟨_, hps, _, _⟩ := rt_pts j hj10
    obtain ⟨_, hpl⟩ := rt_small j hj10
    rw [e] at hps hpl
    unfold tgtR
    have h3 : ∀ s ∈ (ptsR r).map (wrPc a), s.size ≤ 2000 := fun s hs => by
      obtain ⟨p, hp, rfl⟩ := List.mem_map.1 hs
      exact wrPc_size hA hB (by omega) (by omega) (hps p hp)
    have h4 := joinS_len h3
    rw [Lib.size_eq]
    show (Lib.join _ [47]).length ≤ _
    rw [List.length_map] at h4
    have h5 : (2000 + 1) * (ptsR r).length ≤ 2001 * 4 := Nat.mul_le_mul_left _ hpl
    omega
theorem bts_own {w : World} {B n c : Nat} {a : Option Addr} {l : List Int} (h : w.ownsRow B 5 1 (.slice a n c) n (bv l)) (hl : Byt l) : Bts w a n c l := by
  obtain ⟨a2, c2, e, hb⟩ := Bts.of_owns h hl
  cases e; exact hb
theorem btsA_off {w : World} {g n c : Nat} {a : Option Addr} {l : List Int} {k A B : Int} {m t : ByteArray} {q : Option Addr} {e f : Nat} (h : Bts w a n c l) (hn : 0 < n) (hr : w.heap[g]? = some (.cells #[.int .i64 k, .string m, .string t, .slice q e f, .int .i64 A, .int .i64 B] 27 (0, 0))) : ∀ p, a = some p → p.block ≠ g := by
  intro p hp hg
  obtain ⟨b, off, e1, _, hc⟩ := h.spot hn
  rw [hp] at e1
  cases e1
  have h0 := hc 0 hn
  have hg2 : b = g := hg
  subst hg2
  rw [Nat.add_zero, cell_of_row w b off _ _ (0, 0) hr] at h0
  match off, h0 with
  | 0, h0 => cases h0
  | 1, h0 => cases h0
  | 2, h0 => cases h0
  | 3, h0 => cases h0
  | 4, h0 => cases h0
  | 5, h0 => cases h0
  | _ + 6, h0 => simp at h0

set_option maxRecDepth 100000 in
set_option maxHeartbeats 1000000 in
theorem walk (a : As) (a0 : Option Addr) (n0 c0 : Nat) (w : World) (ha : AskI w a a0 n0 c0) (hL : laidMetH Tryd.prog Rows.routePrintsRow.laid w) (hsh : w.ShapedOpen Tryd.prog) :
    Calls Tryd.prog 4 #[.agg (askV a a0 n0 c0)] w fun e w' => e = .returned (.bool true) ∧ Below w.heap.size w w' := by
  have hL' := plainH hL (by kernel_rfl)
  have hE : RtE w := ⟨tens_at hL' 2 rfl, errs_at hL' 3 4 rfl rfl, rtb_at hL' 5 rfl⟩
  clear hL hL' hsh
  have hR1 := heap_alloc_new w (.cells (askV a a0 n0 c0) 27)
  have hB1 : Below w.heap.size w (w.alloc (.cells (askV a a0 n0 c0) 27)) := (Below.refl _ _).alloc (Nat.le_refl _) _
  have ha1 := ha.below hB1
  have hkA : V64 (ctA a).A := ha.A
  have hkB : V64 (ctA a).B := ha.B
  have HCT : Bx (∀ W, AskI W a a0 n0 c0 → Calls Tryd.prog 12 #[.agg (askV a a0 n0 c0)] W fun e w' => ∃ a' m' c', e = .returned (.agg (askV (ctA a) a' m' c')) ∧ Bts w' a' m' c' (ctA a).b ∧ m' ≤ 4200 ∧ Below W.heap.size W w') := ⟨fun W h => (acut_any a a0 n0 c0 W h).mono fun e w' ⟨a', m', c', h1, h2, _, h4, h5⟩ => ⟨a', m', c', h1, h2, h4, h5⟩⟩
  have HCT2 : Bx (∀ W a' m' c', Bts W a' m' c' (ctA a).b → Calls Tryd.prog 12 #[.agg (askV (ctA a) a' m' c')] W fun e w' => ∃ a2 m2 c2, e = .returned (.agg (askV (ctA a) a2 m2 c2)) ∧ Bts w' a2 m2 c2 (ctA a).b ∧ m2 ≤ 4200 ∧ Below W.heap.size W w') := ⟨fun W a' m' c' h => by
    have h1 := acut_any (ctA a) a' m' c' W ⟨h, ha.k, ha.A, ha.B, by have := ctT_size a.nm 30; show (ctT a.nm 30).size ≤ maxLen; unfold maxLen; omega, by have := ctT_size a.sp 30; show (ctT a.sp 30).size ≤ maxLen; unfold maxLen; omega⟩
    rw [ctA_twice] at h1
    exact h1.mono fun e w' ⟨a', m', c', h1, h2, _, h4, h5⟩ => ⟨a', m', c', h1, h2, h4, h5⟩⟩
  have HSN : Bx ((ctA a).nm.size ≤ 30 ∧ (ctA a).sp.size ≤ 30) := ⟨⟨ctT_size _ _, ctT_size _ _⟩⟩
  have HKA := Bx.mk hkA
  have HKB := Bx.mk hkB
  have HE0 := Bx.mk hE
  have HR1 := Bx.mk hR1
  have HB1 := Bx.mk hB1
  have HA1 := Bx.mk ha1
  clear hE hR1 hB1 ha1 ha hkA hkB
  generalize hz : ctA a = z at *
  clear hz
  show Calls Tryd.prog 4 #[.agg #[.int .i64 a.k, .string a.nm, .string a.sp, .slice a0 n0 c0, .int .i64 a.A, .int .i64 a.B]] w fun e w' => e = .returned (.bool true) ∧ Below w.heap.size w w'
  unfold askV at HR1 HB1 HA1 HCT HCT2
  generalize hw1 : w.alloc (.cells #[.int .i64 a.k, .string a.nm, .string a.sp, .slice a0 n0 c0, .int .i64 a.A, .int .i64 a.B] 27) = w1 at *
  go_enter Tryd.func4, Tryd.ntmps4
  go_upto_region 1 with fail
  clear hw1
  go_wp2_with (refine wpList_load_row rfl 27 (.tmp 1) rfl w.heap.size rfl 27 #[.int .i64 a.k, .string a.nm, .string a.sp, .slice a0 n0 c0, .int .i64 a.A, .int .i64 a.B] (0, 0) _ HR1.out Tryd.underlying27 rfl ask_info22 ?_)
  refine (HCT.out _ HA1.out).mono ?_
  rintro e w2 ⟨ya, yn, yc, rfl, hby, hyn, hb2⟩
  have hR2 := (hb2.block _ (Array.getElem?_eq_some_iff.1 HR1.out).1).trans HR1.out
  have HTR : Bx (w2.there w.heap.size 0 6) := ⟨there_row hR2⟩
  have HR3 : Bx ((w2.setCells w.heap.size 0 (askV z ya yn yc).toList).heap[w.heap.size]? = some (.cells (askV z ya yn yc) 27 (0, 0))) := ⟨heap_stored hR2 rfl⟩
  have HB3 : Bx (Below w.heap.size w (w2.setCells w.heap.size 0 (askV z ya yn yc).toList)) := ⟨below_setCells (bstep HB1.out hb2) _ (Nat.le_refl _) _ 0⟩
  have HY3 : Bx (Bts (w2.setCells w.heap.size 0 (askV z ya yn yc).toList) ya yn yc z.b) := ⟨hby.keep (fun hp q hq => setCells_other (btsA_off hby hp hR2 q hq) _ _) (by rw [setCells_size]; exact Nat.le_refl _)⟩
  have HAL := Bx.mk (askV_all z ya yn yc)
  have HYN := Bx.mk hyn
  clear hby hb2 hR2 HA1 HR1 HB1 HCT hyn
  go_upto_region 2 with (refine wpList_store_mid rfl 27 (.tmp 1) (.tmp 9) rfl w.heap.size 0 (askV z ya yn yc) rfl rfl HTR.out ask_info22 HAL.out ?_)
  generalize hw3 : w2.setCells w.heap.size 0 (askV z ya yn yc).toList = w3 at *
  clear hw3 HTR
  go_wp2_with (refine wpList_load_row rfl 27 (.tmp 1) rfl w.heap.size rfl 27 (askV z ya yn yc) (0, 0) _ HR3.out Tryd.underlying27 rfl ask_info22 ?_)
  refine (HCT2.out _ _ _ _ HY3.out).mono ?_
  rintro e w4 ⟨za, zn, zc, rfl, hz4, hzn, hb4⟩
  have hN5 := heap_alloc_new w4 (.cells (askV z za zn zc) 27)
  have hNB5 : Below w4.heap.size w4 (w4.alloc (.cells (askV z za zn zc) 27)) := (Below.refl _ _).alloc (Nat.le_refl _) _
  unfold askV at hN5 hNB5
  go_upto_region 3 with fail
  generalize hw5 : w4.alloc (.cells #[.int .i64 z.k, .string z.nm, .string z.sp, .slice za zn zc, .int .i64 z.A, .int .i64 z.B] 27) = w5 at *
  clear hw5
  have hb35 : Below w3.heap.size w3 w5 := bstep hb4 hNB5
  have HB5 : Bx (Below w.heap.size w w5) := ⟨bstep HB3.out hb35⟩
  have HRX5 : Bx (w5.heap[w.heap.size]? = some (.cells (askV z ya yn yc) 27 (0, 0))) := ⟨(hb35.block _ (Array.getElem?_eq_some_iff.1 HR3.out).1).trans HR3.out⟩
  have HY5 : Bx (Bts w5 ya yn yc z.b) := ⟨HY3.out.below hb35⟩
  have HRM5 : Bx (w5.heap[w4.heap.size]? = some (.cells (askV z za zn zc) 27 (0, 0))) := ⟨hN5⟩
  have HZ5 : Bx (Bts w5 za zn zc z.b) := ⟨hz4.below hNB5⟩
  have HALL : Bx (∀ W, Below w5.heap.size w5 W → RtE W ∧ W.heap[w.heap.size]? = some (.cells (askV z ya yn yc) 27 (0, 0)) ∧ Bts W ya yn yc z.b ∧ W.heap[w4.heap.size]? = some (.cells (askV z za zn zc) 27 (0, 0)) ∧ Bts W za zn zc z.b ∧ Below w.heap.size w W) := ⟨fun W h => by
    have h2 := bstep HB5.out h
    exact ⟨HE0.out.below h2, (h.block _ (Array.getElem?_eq_some_iff.1 HRX5.out).1).trans HRX5.out, HY5.out.below h, (h.block _ (Array.getElem?_eq_some_iff.1 HRM5.out).1).trans HRM5.out, HZ5.out.below h, h2⟩⟩
  have HPA : Bx (∀ W b m c, RtE W → Bts W b m c z.b → m ≤ 4200 → Calls Tryd.prog 13 #[.agg (askV z b m c)] W (PrnP (prtV z) W)) := ⟨fun W b m c h1 h2 h3 => print_rt z b m c W h2 HKA.out HKB.out (by have := HSN.out.1; omega) (by have := HSN.out.2; omega) (by omega) h1 (wrt_size HKA.out HKB.out HSN.out.1 HSN.out.2)⟩
  have HRP : Bx (∀ W b m c, Bts W b m c z.b → m ≤ 4200 → Calls Tryd.prog 14 #[.agg (askV z b m c)] W (PrnP (prtV z) W)) := ⟨fun W b m c h2 h3 => rprint_any z b m c W h2 HKA.out HKB.out (by have := HSN.out.1; omega) (by have := HSN.out.2; omega) (by omega)⟩
  have HZN := Bx.mk hzn
  generalize prtV z = T at *
  obtain ⟨x, code⟩ := T
  clear hb4 hz4 hN5 hNB5 hb35 HR3 HB3 HY3 HCT2 HE0 HRX5 HY5 HB5 hzn
  obtain ⟨hE5, _, _, _, _, _⟩ := HALL.out w5 (Below.refl _ _)
  go_wp2_with (refine wpList_load_row rfl 27 (.tmp 3) rfl w4.heap.size rfl 27 (askV z za zn zc) (0, 0) _ HRM5.out Tryd.underlying27 rfl ask_info22 ?_)
  refine (HPA.out _ _ _ _ hE5 HZ5.out HZN.out).mono ?_
  rintro e w6 ⟨pa, pc, rfl, hop, hbp, hb6⟩
  dsimp only at hop hbp ⊢
  clear hE5 HPA HRM5 HZ5
  unfold reqV
  have hNA7 := heap_alloc_new w6 (.cells #[.string x.m, .string x.t, .string x.k, .slice pa x.b.length pc] 24)
  have hNB7 : Below w6.heap.size w6 (w6.alloc (.cells #[.string x.m, .string x.t, .string x.k, .slice pa x.b.length pc] 24)) := (Below.refl _ _).alloc (Nat.le_refl _) _
  go_upto_region 4 with fail
  generalize hw7 : w6.alloc (.cells #[.string x.m, .string x.t, .string x.k, .slice pa x.b.length pc] 24) = w7 at *
  clear hw7
  have hb57 : Below w5.heap.size w5 w7 := bstep hb6 hNB7
  have hbx7 := (bts_own hop hbp).below hNB7
  obtain ⟨_, hX7, hY7, _, _, _⟩ := HALL.out w7 hb57
  have HRC := Bx.mk (HRP.out w7 ya yn yc hY7 HYN.out)
  have HX7 := Bx.mk hX7
  clear hY7 hX7 HRP
  go_wp2_with (refine wpList_load_row rfl 27 (.tmp 1) rfl w.heap.size rfl 27 (askV z ya yn yc) (0, 0) _ HX7.out Tryd.underlying27 rfl ask_info22 ?_)
  refine HRC.out.mono ?_
  rintro e w8 ⟨qa, qc, rfl, hoq, hbq, hb8⟩
  dsimp only at hoq ⊢
  unfold reqV
  have hNC9 := heap_alloc_new w8 (.cells #[.string x.m, .string x.t, .string x.k, .slice qa x.b.length qc] 24)
  have hNB9 : Below w8.heap.size w8 (w8.alloc (.cells #[.string x.m, .string x.t, .string x.k, .slice qa x.b.length qc] 24)) := (Below.refl _ _).alloc (Nat.le_refl _) _
  go_upto_region 5 with fail
  generalize hw9 : w8.alloc (.cells #[.string x.m, .string x.t, .string x.k, .slice qa x.b.length qc] 24) = w9 at *
  clear hw9
  have hb79 : Below w7.heap.size w7 w9 := bstep hb8 hNB9
  have HA9 : Bx (w9.heap[w6.heap.size]? = some (.cells #[.string x.m, .string x.t, .string x.k, .slice pa x.b.length pc] 24 (0, 0))) := ⟨(hb79.block _ (Array.getElem?_eq_some_iff.1 hNA7).1).trans hNA7⟩
  have HC9 : Bx (w9.heap[w8.heap.size]? = some (.cells #[.string x.m, .string x.t, .string x.k, .slice qa x.b.length qc] 24 (0, 0))) := ⟨hNC9⟩
  have HSC := Bx.mk (rsame_any x x pa qa x.b.length x.b.length pc qc w9 (hbx7.below hb79) ((bts_own hoq hbq).below hNB9))
  rw [smW_same] at HSC
  unfold reqV at HSC
  have HB59 : Bx (Below w5.heap.size w5 w9) := ⟨hb57.trans (hb79.mono hb57.size)⟩
  clear hop hNA7 hNB7 hb57 hb8 hoq hNC9 hNB9 hb79 HRC HX7 hb6 hbx7
  have gcode : (code == code) = true := by simp
  go_wp2_with (first
    | (refine wpList_load_row rfl 24 (.tmp 4) rfl w6.heap.size rfl 24 #[.string x.m, .string x.t, .string x.k, .slice pa x.b.length pc] (0, 0) _ HA9.out Tryd.underlying24 rfl req_info ?_)
    | (refine wpList_load_row rfl 24 (.tmp 6) rfl w8.heap.size rfl 24 #[.string x.m, .string x.t, .string x.k, .slice qa x.b.length qc] (0, 0) _ HC9.out Tryd.underlying24 rfl req_info ?_))
  refine HSC.out.mono ?_
  rintro e wA ⟨rfl, hbA⟩
  have HBA : Bx (Below w5.heap.size w5 wA) := ⟨HB59.out.trans (hbA.mono HB59.out.size)⟩
  obtain ⟨hEA, hXA, hYA, hMA, hZA, hBA⟩ := HALL.out wA HBA.out
  have m0 : wA.cell? ⟨w4.heap.size, 0, none⟩ = some (.int .i64 z.k) := by rw [cell_of_row wA _ 0 _ _ (0, 0) hMA]; rfl
  have m1 : wA.cell? ⟨w4.heap.size, 1, none⟩ = some (.string z.nm) := by rw [cell_of_row wA _ 1 _ _ (0, 0) hMA]; rfl
  have m2 : wA.cell? ⟨w4.heap.size, 2, none⟩ = some (.string z.sp) := by rw [cell_of_row wA _ 2 _ _ (0, 0) hMA]; rfl
  have m3 : wA.cell? ⟨w4.heap.size, 3, none⟩ = some (.slice za zn zc) := by rw [cell_of_row wA _ 3 _ _ (0, 0) hMA]; rfl
  have m4 : wA.cell? ⟨w4.heap.size, 4, none⟩ = some (.int .i64 z.A) := by rw [cell_of_row wA _ 4 _ _ (0, 0) hMA]; rfl
  have m5 : wA.cell? ⟨w4.heap.size, 5, none⟩ = some (.int .i64 z.B) := by rw [cell_of_row wA _ 5 _ _ (0, 0) hMA]; rfl
  have x0 : wA.cell? ⟨w.heap.size, 0, none⟩ = some (.int .i64 z.k) := by rw [cell_of_row wA _ 0 _ _ (0, 0) hXA]; rfl
  have x1 : wA.cell? ⟨w.heap.size, 1, none⟩ = some (.string z.nm) := by rw [cell_of_row wA _ 1 _ _ (0, 0) hXA]; rfl
  have x2 : wA.cell? ⟨w.heap.size, 2, none⟩ = some (.string z.sp) := by rw [cell_of_row wA _ 2 _ _ (0, 0) hXA]; rfl
  have x3 : wA.cell? ⟨w.heap.size, 3, none⟩ = some (.slice ya yn yc) := by rw [cell_of_row wA _ 3 _ _ (0, 0) hXA]; rfl
  have x4 : wA.cell? ⟨w.heap.size, 4, none⟩ = some (.int .i64 z.A) := by rw [cell_of_row wA _ 4 _ _ (0, 0) hXA]; rfl
  have x5 : wA.cell? ⟨w.heap.size, 5, none⟩ = some (.int .i64 z.B) := by rw [cell_of_row wA _ 5 _ _ (0, 0) hXA]; rfl
  have HSM := Bx.mk (rfsame_any z z za ya zn yn zc yc wA hZA hYA)
  rw [asE_self] at HSM
  unfold askV at HSM
  have HEA := Bx.mk hEA
  have HBW := Bx.mk hBA
  clear hEA hXA hYA hMA hZA hBA HBA hbA HSC HA9 HC9 HB59
  go_wp2_with fail
  refine HSM.out.mono ?_
  rintro e wB ⟨rfl, hbB⟩
  have hEB := HEA.out.below hbB
  have HBB := Bx.mk (bstep HBW.out hbB)
  clear HSM HEA HBW hbB m0 m1 m2 m3 m4 m5 x0 x1 x2 x3 x4 x5
  go_wp2_with fail
  refine (rtlives_any _ hEB).mono ?_
  rintro e wC ⟨rfl, hbC⟩
  have hfin := bstep HBB.out hbC
  go_wp2_with fail
  go_ret
  exact ⟨rfl, hfin⟩

set_option maxRecDepth 100000 in
/-- what the walk gives, for every argument and every world that holds the table -/
theorem contract (H : Type) (enc : TypeId × Value → H) (W : World) (base : Nat) (args : Array Value) (ds gs : List (DataW H)) (before : List MemPlace)
    (hval0 : ∀ (j : Nat) t v, Tryd.f4.params[j]? = some t → args[j]? = some v → Value.okWide Tryd.prog W .any base t v)
    (hW : DataW.Whole enc Tryd.prog Tryd.f4.params.toList Rows.routePrintsSpec.vars false W args.toList ds gs before) (hL : laidMetH Tryd.prog Rows.routePrintsRow.laid W) (hsh : W.ShapedOpen Tryd.prog) :
    Calls Tryd.prog 4 args W fun e W' => ∃ v, e = .returned v ∧ Rows.routePrintsSpec.post enc Tryd.prog Tryd.f4 false true false false W args v W' := by
  have hval : ∀ (j : Nat) t v, Tryd.f4.params[j]? = some t → args[j]? = some v → Value.okWide Tryd.prog W .any base t v := hval0
  have hW' := hW
  obtain ⟨p, q, hA0, hV, rfl, hfz, hnd⟩ := hW
  have hA : DataW.TrodAll enc Tryd.prog W 0 (fun _ => true) true Tryd.f4.params.toList args.toList ds p := hA0
  rw [Tryd.params4] at hA hval
  obtain ⟨v0, vs0, d0, ds0, p0, q0, hargs, rfl, rfl, h0, r0⟩ := trodAll_cons hA
  obtain ⟨rfl, rfl, rfl⟩ := trodAll_nil r0
  obtain rfl : args = #[v0] := by cases args; simp_all
  obtain ⟨rfl, rfl⟩ := trodVars_none hV
  have k0 := h0
  have lt0 : ∀ x ∈ p0, x.block < W.heap.size := by obtain ⟨m, hm⟩ := k0; exact DataW.trod_lt m _ _ _ hm
  obtain ⟨a, a0, n0, c0, rfl, ha⟩ := open_ask (hval 0 27 v0 rfl rfl) h0
  clear hA0 hval0
  refine (walk a a0 n0 c0 W ha hL hsh).mono fun e W' ⟨he, bel⟩ => ?_
  subst he
  exact ⟨_, rfl, _, _, _, [], _, [], hW', trodAll_mk1 (shut_bool Tryd.underlying4 _), (trodAll_cons_mk (Below.trod laidOut (by kernel_rfl) (of_decide_eq_true (by kernel_rfl)) k0 bel lt0) trodAll_mk0), rfl, bel.frame _, fun h => by cases h⟩

set_option maxRecDepth 100000 in
theorem laid_met (os : Os) : laidMet Tryd.prog Rows.routePrintsRow.laid ((World.doorLaid Tryd.prog 2000 os).forCall (fun _ _ => 0) ⟨#[], #[.agg (askV as0 none 0 0)], []⟩).memory :=
  laidMet_of_run' 8 (by kernel_rfl) (by kernel_rfl)
set_option maxRecDepth 100000 in
theorem reads (os : Os) {H : Type} (enc : TypeId × Value → H) : ∃ places, DataW.whole enc Tryd.prog ((World.doorLaid Tryd.prog 2000 os).forCall (fun _ _ => 0) ⟨#[], #[.agg (askV as0 none 0 0)], []⟩).memory Tryd.f4.params.toList Rows.routePrintsSpec.vars false (#[.agg (askV as0 none 0 0)] : Array Value).toList 8 = some ([.agg [.lit (.int .i64 0), .lit (.string []), .lit (.string []), .nil, .lit (.int .i64 0), .lit (.int .i64 0)]], [], places) :=
  ⟨[], by kernel_rfl⟩
set_option maxRecDepth 100000 in
theorem lifted (os : Os) (started : os.Started) (H : Type) (enc : TypeId × Value → H) (F : Stop.Interp) :
    ReturnsInHanded {} Tryd.checked os 4 .any ((OpenSpec.ofChange Rows.routePrintsSpec).preRow enc Tryd.prog Tryd.f4 Rows.routePrintsRow.domain false Rows.routePrintsRow.laid) (((OpenSpec.ofChange Rows.routePrintsSpec).at F).post enc Tryd.prog Tryd.f4 false true false false) := by
  obtain ⟨places, hx⟩ := reads os enc
  refine returnsInHanded_of_row (C := Tryd.checked) (s := OpenSpec.ofChange Rows.routePrintsSpec) own started (by kernel_rfl) Tryd.func4
    (witness_row_at (enc := enc) (C := Tryd.checked) false (World.doorLaid Tryd.prog 2000 os) #[.agg (askV as0 none 0 0)] rfl (by kernel_rfl) (by kernel_rfl) (by kernel_rfl)
      (OpenSpec.preRow_of_cond 8 hx (by kernel_rfl) (fun k hk => by cases hk) (by kernel_rfl) (laid_met os))) ?_
  intro W base args ds gs before hval hW _ _ _ hL hsh _
  exact contract H enc W base args ds gs before hval hW hL hsh
theorem said : Rows.RoutePrintsSaid :=
  OpenClaim.holds_of_cond 4 Tryd.f4 rfl rfl rfl rfl rfl rfl rfl ⟨rfl, rfl, rfl, rfl, rfl⟩ rfl rfl rfl rfl rfl (by kernel_rfl) Tryd.func4 (by kernel_rfl)
    (of_decide_eq_true (by kernel_rfl)) (by unfold Func.isWrapper; first | (rw [if_pos (by decide +kernel)]; kernel_rfl) | (rw [if_neg (by decide +kernel)]; exact ⟨rfl, rfl⟩))
    (fun os started H enc _ F => by rw [OpenClaim.pre_eq_preRow]; exact lifted os started H enc F)
theorem plain (f : FuncId) (fn : Func) (hf : Tryd.pinned.checked.prog.funcNamed "inquest/inquestlaw23.RoutePrints" = some f) (hfn : Tryd.pinned.checked.prog.funcs[f]? = some fn) :
    true = Tryd.pinned.checked.prog.looks [] ∧ ∀ (j : Nat) t, fn.params[j]? = some t → Tryd.pinned.checked.prog.wantsStandIn t = false := by
  obtain rfl : f = 4 := Option.some.inj ((show Tryd.prog.funcNamed "inquest/inquestlaw23.RoutePrints" = some 4 by kernel_rfl).symm.trans hf) |>.symm
  obtain rfl : fn = Tryd.f4 := (Option.some.inj (Tryd.func4.symm.trans hfn)).symm
  refine ⟨by kernel_rfl, fun j t ht => ?_⟩
  rw [Tryd.params4] at ht
  have hall : ([27].all fun u => !Tryd.prog.wantsStandIn u) = true := by kernel_rfl
  have hm : t ∈ [27] := by simpa using Array.mem_of_getElem? ht
  exact (show Tryd.prog.wantsStandIn t = false by simpa using List.all_eq_true.1 hall t hm)
/-- the tied card -/
theorem card : Rows.RoutePrintsCardSaid :=
  Claim7.holds_tied_plain_at .later [] _ _ _ _ said (fun _ h => by cases h) (by kernel_rfl) (fun _ h => by cases h) routePrints_row_tie rfl ⟨rfl, rfl⟩ (by kernel_rfl) rfl plain (by kernel_rfl)
end Go.Proofs.YtpfijaojgeceeaaDoor.routePrints
namespace Go.Proofs.YtpfijaojgeceeaaDoor
theorem routePrints_holds : Rows.RoutePrintsCardSaid := routePrints.card
#print axioms routePrints_holds
end Go.Proofs.YtpfijaojgeceeaaDoor
