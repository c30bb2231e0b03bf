/- For every request, every slice of bytes and every int k the law WireBack returns true, and the request and the slice read as they did (P13.6): what is printed is read, whatever stands behind, and a beginning of it ends too early. The library's tables are as the program's text lays them (the card ties them). -/
import Derived.Test.YtdameoejigpnhaaGreatDoorTDoor
import Derived.LaidMore
import Derived.Lay
import Derived.Test.YtdameoejigpnhaaGreatDoorWLaw
import Derived.Test.YtdameoejigpnhaaGreatDoorSma
import Derived.WalkKit
import Derived.ShutString
import Derived.ChangeOld
import Derived.Below
namespace Go.Proofs.YtdameoejigpnhaaGreatDoor.wireBack
open Go.ChangeShapes Go.WideShapes Go.ChangeAt Go.RowKit
open Go.ChangeMaps (open_string shut_string)
set_option linter.unusedVariables false

theorem laidOut : laidOutB Tryz.prog = true := by kernel_rfl

set_option maxRecDepth 100000 in
set_option maxHeartbeats 1000000 in
theorem walk (x : WX) (a0 : Option Addr) (n0 c0 : Nat) (a1 : Option Addr) (len1 cap1 : Nat) (be : List Int) (k : Int) (w : World) (hx : Rqs w x a0 n0 c0) (hbe : Bts w a1 len1 cap1 be) (hk : I64 k) (hL : laidMetH Tryz.prog Rows.wireBackRow.laid w) (hsh : w.ShapedOpen Tryz.prog) :
    Calls Tryz.prog 6 #[reqV x (.slice a0 n0 c0), .slice a1 len1 cap1, .int .i64 k] w fun e w' => e = .returned (.bool true) ∧ Below w.heap.size w w' := by
  have HEV := Bx.mk (env_at (plainH hL (by kernel_rfl)) hsh 2 4 5 rfl rfl rfl)
  clear hL hsh
  have HX := Bx.mk hx
  have HBE := Bx.mk hbe
  have HK := Bx.mk hk
  have HB1 := Bx.mk (alloc_below w (.cells #[.string x.m, .string x.t, .string x.k, .slice a0 n0 c0] 26))
  have HR1 := Bx.mk (RA.new hx.b)
  have HSZ1 : Bx ((w.alloc (.cells #[.string x.m, .string x.t, .string x.k, .slice a0 n0 c0] 26)).heap.size = w.heap.size + 1) := ⟨by simp⟩
  unfold reqV
  generalize hw1 : w.alloc (.cells #[.string x.m, .string x.t, .string x.k, .slice a0 n0 c0] 26) = W1 at *
  clear hx hbe hk
  have C1 : Hid (Calls Tryz.prog 22 #[.agg #[.string x.m, .string x.t, .string x.k, .slice a0 n0 c0]] W1 fun e w' => ∃ a' c', e = .returned (reqV (ctX x) (.slice a' (ctX x).b.length c')) ∧ Bts w' a' (ctX x).b.length c' (ctX x).b ∧ Below W1.heap.size W1 w') := rcut_any x a0 n0 c0 W1 HR1.out.b HX.out.m HX.out.t HX.out.k
  go_enter Tryz.func6, Tryz.ntmps6
  go_wp2_with (refine wpList_load_row rfl 26 (.tmp 3) rfl w.heap.size rfl 26 #[.string x.m, .string x.t, .string x.k, .slice a0 n0 c0] (0, 0) _ HR1.out.row Tryz.underlying26 rfl req_info ?_)
  refine C1.out.mono ?_
  rintro e w2 ⟨a2, c2, rfl, hb2, hbl2⟩
  clear hw1 C1
  have HB2 := Bx.mk (bstep HB1.out hbl2)
  have HR2 := Bx.mk (HR1.out.below hbl2)
  have HXB2 := Bx.mk hb2
  have HS2 := Bx.mk (ctX_sml x)
  have HBE2 := Bx.mk (HBE.out.below HB2.out)
  clear hb2 hbl2
  generalize ctX x = y at *
  unfold reqV
  go_wp2_with fail
  refine (cut_any a1 len1 cap1 100 be _ HBE2.out (by decide)).mono ?_
  rintro e w2' ⟨⟨lenb, rfl, hlb⟩, hw2'⟩
  subst hw2'
  have hlenb : lenb ≤ 100 := by have := hlb.len_eq; rw [List.length_take] at this; omega
  obtain ⟨r1, r2, r3, r4, r5⟩ := HR2.out.put HB2.out (Nat.le_refl _) HXB2.out (bts_ne2 HXB2.out HR2.out.row (req_noint _ _ _ _ _ _))
  have hbe3 : Bts (w2.setCells w.heap.size 0 #[.string y.m, .string y.t, .string y.k, .slice a2 y.b.length c2].toList) a1 lenb cap1 (be.take 100) := hlb.keep (fun hp p e => r4 _ (bts_ne2 hlb HR2.out.row (req_noint _ _ _ _ _ _) hp p e)) (by rw [r5]; exact Nat.le_refl _)
  have HTH := Bx.mk r1
  have HR3 := Bx.mk r2
  have HB3 := Bx.mk r3
  have HBE3 := Bx.mk hbe3
  have HONE := Bx.mk (req_one y.m y.t y.k (.slice a2 y.b.length c2) rfl)
  generalize be.take 100 = bh at *
  clear r1 r2 r3 r4 r5 hbe3 hlb
  go_wp2_with (first
    | (refine wpList_store_mid rfl 26 (.tmp 3) (.tmp 13) rfl w.heap.size 0 #[.string y.m, .string y.t, .string y.k, .slice a2 y.b.length c2] rfl rfl HTH.out req_info HONE.out ?_; generalize w2.setCells w.heap.size 0 #[.string y.m, .string y.t, .string y.k, .slice a2 y.b.length c2].toList = W3 at HR3 HB3 HBE3 ⊢; have HR5 := HR3; clear HTH HR3)
    | (refine wpList_load_row rfl 26 (.tmp 3) rfl w.heap.size rfl 26 #[.string y.m, .string y.t, .string y.k, .slice a2 y.b.length c2] (0, 0) _ HR5.out.row Tryz.underlying26 rfl req_info ?_))
  have HE3 := Bx.mk (HEV.out.up HB3.out)
  refine (wprint_any y a2 y.b.length c2 W3 HR5.out.b HS2.out HE3.out).mono ?_
  rintro e w4 ⟨hb4, hor⟩
  have HB4 := Bx.mk (bstep HB3.out hb4)
  have HR4 := Bx.mk (HR5.out.below hb4)
  have HBE4 := Bx.mk (HBE3.out.below hb4)
  clear hb4
  rcases hor with ⟨hpb, b5, c5, rfl, hbt5⟩ | ⟨hpb, rfl⟩
  · have HBT5 := Bx.mk hbt5
    have HPT : Bx (runQ wp0 ws0 (wrL y) 0 = (y, (wrL y).length, 0)) := ⟨(prB_iff y).1 hpb⟩
    have HLX : Bx ((wrL y).length < 10000 ∧ 1 ≤ (wrL y).length) := ⟨by unfold wrL; rw [List.length_append, strL_length]; have := (wrB_size HS2.out); have := HS2.out.b; omega⟩
    have HRB := Bx.mk (run_behindQ wp0 HPT.out bh)
    have HRS : Bx (∀ j, j < (wrL y).length → runQ wp0 ws0 ((wrL y).take j) 0 = (wx0, 0, 3)) := ⟨fun j hj => run_beginQ wp0 HPT.out j hj⟩
    clear hpb hbt5 HPT
    generalize wrL y = P at *
    obtain ⟨NP, hNP⟩ : ∃ NP, P.length = NP := ⟨_, rfl⟩
    have HNP := Bx.mk hNP
    rw [hNP] at HBT5 HRB HRS HLX ⊢
    clear hNP
    have hNPb : NP < 10000 := HLX.out.1
    have hNP1 : 1 ≤ NP := HLX.out.2
    go_wp2_with fail
    refine (copy_any _ NP c5 P _ HBT5.out (by omega)).mono ?_
    rintro e w5 ⟨v6, rfl, hown6, hb6⟩
    have HBE6 := Bx.mk (HBE4.out.below hb6)
    have HOWN6 := Bx.mk hown6
    have HB6 := Bx.mk (bstep HB4.out hb6)
    have HR6 := Bx.mk (HR4.out.below hb6)
    have HBT6 := Bx.mk (HBT5.out.below hb6)
    have HS6 := Bx.mk hb6.size
    have HBY : Bx (Byt (P ++ bh)) := ⟨HBT5.out.byt.append HBE4.out.byt⟩
    clear hown6 hb6
    go_wp2_with (at_builtin; refine wpList_append_bts rfl (.tmp 35) (.tmp 36) rfl w4.heap.size NP _ P rfl HOWN6.out a1 lenb cap1 bh rfl HBE6.out (by omega) HS6.out ?_; intro v7 w7 hown7 hb7 hgr7; have hlp : (P ++ bh).length = NP + lenb := (by rw [List.length_append, HNP.out, HBE6.out.len_eq]); rw [← hlp] at hown7; obtain ⟨a7, c7, hv7, hm7⟩ := Bts.of_owns hown7 HBY.out; rw [hlp] at hv7 hm7; subst hv7; have HM7 := Bx.mk hm7; have HK7 : Bx (∀ k, k < w4.heap.size → w7.heap[k]? = w5.heap[k]?) := ⟨fun k hk => hb7.block k hk⟩; have HB7 : Bx (Below w.heap.size w w7) := ⟨HB6.out.trans (hb7.mono HB4.out.size)⟩; have HS7 := Bx.mk hb7.size; clear hown7 hb7 hgr7 hm7 hlp)
    have HR7 : Bx (RA w7 w.heap.size y a2 y.b.length c2) := ⟨by rw [HK7.out _ (HR4.out.lt)]; exact HR6.out.row, HR6.out.b.keep (fun hp p e => HK7.out _ (HR4.out.b.lt hp e)) HS7.out⟩
    have HBT7 : Bx (Bts w7 (some ⟨b5, 0, none⟩) NP c5 P) := ⟨HBT6.out.keep (fun hp p e => HK7.out _ (HBT5.out.lt hp e)) HS7.out⟩
    refine (wwhole_any a7 _ c7 (P ++ bh) _ HM7.out (HEV.out.up HB7.out)).mono ?_
    rw [HRB.out]
    rintro e w8 ⟨v8, rfl, hy8, ho8, hb8⟩
    obtain ⟨va, vc, rfl, hq8⟩ := wh_body hy8 ho8
    simp only at hq8
    have HB8 := Bx.mk (bstep HB7.out hb8)
    have HR8 := Bx.mk (HR7.out.below hb8)
    have HBT8 := Bx.mk (HBT7.out.below hb8)
    have hb9 := alloc_below w8 (.cells #[.string y.m, .string y.t, .string y.k, .slice va y.b.length vc] 26)
    have HB9 := Bx.mk (bstep HB8.out hb9)
    have HR9 := Bx.mk (HR8.out.below hb9)
    have HBT9 := Bx.mk (HBT8.out.below hb9)
    have HY9 := Bx.mk (RA.new (x := y) hq8)
    obtain ⟨W9, hW9⟩ : ∃ W9, w8.alloc (.cells #[.string y.m, .string y.t, .string y.k, .slice va y.b.length vc] 26) = W9 := ⟨_, rfl⟩
    rw [hW9] at HB9 HR9 HBT9 HY9
    have HW9 := Bx.mk hW9
    clear hb9 hb8 ho8 hq8 hy8 hW9 HR8 HBT8 HR7 HBT7 HM7 HK7 HR6 HBT6 HBE6 HOWN6 HBE4 HR4 HBT5
    have CS : Hid (Calls Tryz.prog 13 #[.agg #[.string y.m, .string y.t, .string y.k, .slice a2 y.b.length c2], .agg #[.string y.m, .string y.t, .string y.k, .slice va y.b.length vc]] W9 fun e w' => e = .returned (.bool true) ∧ Below W9.heap.size W9 w') := by have h9 := rsame_any y y a2 va _ _ c2 vc W9 HR9.out.b HY9.out.b; rw [smW_self] at h9; exact h9
    unfold reqV
    simp only
    go_upto_region 6 with (rw [HW9.out]; clear HW9)
    have x0 := HR9.out.c0
    have x1 := HR9.out.c1
    have x2 := HR9.out.c2
    have x3 := HR9.out.c3
    have y0 := HY9.out.c0
    have y1 := HY9.out.c1
    have y2 := HY9.out.c2
    have y3 := HY9.out.c3
    go_wp2_with fail
    refine CS.out.mono ?_
    rintro e w10 ⟨rfl, hb10⟩
    have HB10 := Bx.mk (bstep HB9.out hb10)
    have HY10 := Bx.mk (HY9.out.below hb10)
    have HBT10 := Bx.mk (HBT9.out.below hb10)
    clear hb10 x0 x1 x2 x3 y0 y1 y2 y3 CS
    obtain ⟨j, hj1, hj2⟩ : ∃ j : Nat, leastV k 0 ((NP : Int) - 1) = (j : Int) ∧ j < NP := by
      unfold leastV
      refine ⟨(if k < 0 then (0 : Int) else if k > (NP : Int) - 1 then (NP : Int) - 1 else k).toNat, ?_, ?_⟩
      · split
        · rfl
        · split <;> omega
      · split
        · simp; omega
        · split <;> omega
    have HLV := Bx.mk hj1
    have hsl : ∀ W, (Instr.sliceAt 22 (.slice (some ⟨b5, 0, none⟩) NP c5) none (some (.int .i64 (j : Int))) none).run Tryz.prog W = .ok (.slice (slA (some ⟨b5, 0, none⟩) 0 c5) j c5) W := fun W => run_sl_h (some ⟨b5, 0, none⟩) NP c5 j (j : Int) rfl (by have := HBT10.out.le_cap; omega) W
    have HPJ : Bx (Bts w10 (slA (some ⟨b5, 0, none⟩) 0 c5) j c5 (P.take j)) := ⟨by have h9 := HBT10.out.piece 0 j (Nat.zero_le _) (by omega); simpa using h9⟩
    generalize slA (some ⟨b5, 0, none⟩) 0 c5 = aj at *
    clear hj1
    go_wp2_with fail
    refine (least_any k 0 ((NP : Int) - 1) _).mono ?_
    rintro e w11 ⟨rfl, rfl⟩
    rw [HLV.out]
    go_wp2_with fail
    refine (wwhole_any aj j c5 (P.take j) _ HPJ.out (HEV.out.up HB10.out)).mono ?_
    rw [HRS.out j hj2]
    rintro e w12 ⟨v12, rfl, hy12, ho12, hb12⟩
    obtain ⟨vb, vd, rfl, hq12⟩ := wh_body hy12 ho12
    simp only at hq12
    have HY12 := Bx.mk (HY10.out.below hb12)
    have HB12 := Bx.mk (bstep HB10.out hb12)
    obtain ⟨r1, r2, r3, r4, r5⟩ := HY12.out.put (x2 := wx0) (a2 := vb) (n2 := 0) (c2 := vd) HB12.out (HB8.out.size) hq12 (fun h => absurd h (Nat.lt_irrefl _))
    have HTH := Bx.mk r1
    have HY13 := Bx.mk r2
    have HB13 := Bx.mk r3
    have HONE2 := Bx.mk (req_one wx0.m wx0.t wx0.k (.slice vb 0 vd) rfl)
    have HZ13 : Bx (Bts (w12.setCells w8.heap.size 0 #[.string wx0.m, .string wx0.t, .string wx0.k, .slice vb 0 vd].toList) none 0 0 wx0.b) := ⟨rfl, Byt.nil, Nat.le_refl _, Nat.zero_le _, fun _ => rfl, fun h => absurd h (Nat.lt_irrefl _)⟩
    clear r1 r2 r3 r4 r5 hy12 ho12 hb12 hq12 hsl
    unfold reqV
    simp only
    have CS2 : Hid (Calls Tryz.prog 13 #[.agg #[.string wx0.m, .string wx0.t, .string wx0.k, .slice vb 0 vd], .agg #[.string wx0.m, .string wx0.t, .string wx0.k, .slice none 0 0]] (w12.setCells w8.heap.size 0 #[.string wx0.m, .string wx0.t, .string wx0.k, .slice vb 0 vd].toList) fun e w' => e = .returned (.bool true) ∧ Below (w12.setCells w8.heap.size 0 #[.string wx0.m, .string wx0.t, .string wx0.k, .slice vb 0 vd].toList).heap.size (w12.setCells w8.heap.size 0 #[.string wx0.m, .string wx0.t, .string wx0.k, .slice vb 0 vd].toList) w') := by have h9 := rsame_any wx0 wx0 vb none _ _ vd 0 _ HY13.out.b HZ13.out; rw [smW_self] at h9; exact h9
    unfold wx0 at HTH HY13 HB13 HONE2 HZ13 CS2 ⊢
    simp only at HTH HY13 HB13 HONE2 HZ13 CS2 ⊢
    go_upto_region 9 with (refine wpList_store_mid rfl 26 (.tmp 9) (.tmp 65) rfl w8.heap.size 0 #[.string ⟨#[]⟩, .string ⟨#[]⟩, .string ⟨#[]⟩, .slice vb 0 vd] rfl rfl HTH.out req_info HONE2.out ?_; generalize w12.setCells w8.heap.size 0 #[.string ⟨#[]⟩, .string ⟨#[]⟩, .string ⟨#[]⟩, .slice vb 0 vd].toList = W13 at HY13 HB13 HZ13 CS2 ⊢)
    have y0 := HY13.out.c0
    have y1 := HY13.out.c1
    have y2 := HY13.out.c2
    have y3 := HY13.out.c3
    simp only at y0 y1 y2
    go_wp2_with fail
    refine CS2.out.mono ?_
    rintro e w14 ⟨rfl, hb14⟩
    have HB14 := Bx.mk (bstep HB13.out hb14)
    clear hb14 y0 y1 y2 y3
    go_wp2_with fail
    refine (wlives_any _ (HEV.out.up HB14.out)).mono ?_
    rintro e w15 ⟨rfl, hb15⟩
    have HFIN := Bx.mk (bstep HB14.out hb15)
    clear hb15
    go_wp2
    go_ret
    exact ⟨rfl, HFIN.out⟩
  · clear hpb
    go_wp2_with fail
    refine (wlives_any _ (HEV.out.up HB4.out)).mono ?_
    rintro e w5 ⟨rfl, hb5⟩
    have HFIN := Bx.mk (bstep HB4.out hb5)
    clear hb5
    go_wp2
    go_ret
    exact ⟨rfl, HFIN.out⟩

set_option maxRecDepth 100000 in
/-- what the walk gives, for every argument and every world that holds the table -/
theorem contract (H : Type) (enc : TypeId × Value → H) (W : World) (base : Nat) (args : Array Value) (ds gs : List (DataW H)) (before : List MemPlace)
    (hval0 : ∀ (j : Nat) t v, Tryz.f6.params[j]? = some t → args[j]? = some v → Value.okWide Tryz.prog W .any base t v)
    (hW : DataW.Whole enc Tryz.prog Tryz.f6.params.toList Rows.wireBackSpec.vars false W args.toList ds gs before) (hL : laidMetH Tryz.prog Rows.wireBackRow.laid W) (hsh : W.ShapedOpen Tryz.prog) :
    Calls Tryz.prog 6 args W fun e W' => ∃ v, e = .returned v ∧ Rows.wireBackSpec.post enc Tryz.prog Tryz.f6 false true false false W args v W' := by
  have hval : ∀ (j : Nat) t v, Tryz.f6.params[j]? = some t → args[j]? = some v → Value.okWide Tryz.prog W .any base t v := hval0
  have hW' := hW
  obtain ⟨p, q, hA0, hV, rfl, hfz, hnd⟩ := hW
  have hA : DataW.TrodAll enc Tryz.prog W 0 (fun _ => true) true Tryz.f6.params.toList args.toList ds p := hA0
  rw [Tryz.params6] at hA hval
  obtain ⟨v0, vs0, d0, ds0, p0, q0, hargs, rfl, rfl, h0, r0⟩ := trodAll_cons hA
  obtain ⟨v1, vs1, d1, ds1, p1, q1, rfl, rfl, rfl, h1, r1⟩ := trodAll_cons r0
  obtain ⟨v2, vs2, d2, ds2, p2, q2, rfl, rfl, rfl, h2, r2⟩ := trodAll_cons r1
  obtain ⟨rfl, rfl, rfl⟩ := trodAll_nil r2
  obtain rfl : args = #[v0, v1, v2] := by cases args; simp_all
  obtain ⟨rfl, rfl⟩ := trodVars_none hV
  obtain ⟨a1, len1, cap1, rfl⟩ := okWide_slice Tryz.underlying22 (hval 1 22 v1 rfl rfl)
  have k0 := h0
  have lt0 : ∀ x ∈ p0, x.block < W.heap.size := by obtain ⟨m, hm⟩ := k0; exact DataW.trod_lt m _ _ _ hm
  have k1 := h1
  have lt1 : ∀ x ∈ p1, x.block < W.heap.size := by obtain ⟨m, hm⟩ := k1; exact DataW.trod_lt m _ _ _ hm
  have k2 := h2
  have lt2 : ∀ x ∈ p2, x.block < W.heap.size := by obtain ⟨m, hm⟩ := k2; exact DataW.trod_lt m _ _ _ hm
  obtain ⟨x, a0, n0, c0, rfl, hx⟩ := open_req (hval 0 26 v0 rfl rfl) h0
  obtain ⟨be, hbe⟩ := open_byt h1
  obtain ⟨k, rfl, hk⟩ := open_i64 (hval 2 3 v2 rfl rfl) h2
  clear hA0 hval0
  refine (walk x a0 n0 c0 a1 len1 cap1 be k W hx hbe hk hL hsh).mono fun e W' ⟨he, bel⟩ => ?_
  subst he
  exact ⟨_, rfl, _, _, _, [], _, [], hW', trodAll_mk1 (shut_bool Tryz.underlying4 _), (trodAll_cons_mk (Below.trod laidOut (by kernel_rfl) (of_decide_eq_true (by kernel_rfl)) k0 bel lt0) (trodAll_cons_mk (Below.trod laidOut (by kernel_rfl) (of_decide_eq_true (by kernel_rfl)) k1 bel lt1) (trodAll_cons_mk (Below.trod laidOut (by kernel_rfl) (of_decide_eq_true (by kernel_rfl)) k2 bel lt2) trodAll_mk0))), rfl, bel.frame _, fun h => by cases h⟩

set_option maxRecDepth 100000 in
theorem laid_met (os : Os) : laidMet Tryz.prog Rows.wireBackRow.laid ((World.laidAll Tryz.prog os Rows.wireBackRow.laid).forCall (fun _ _ => 0) ⟨#[], #[.agg #[.string ⟨#[]⟩, .string ⟨#[]⟩, .string ⟨#[]⟩, .slice none 0 0], .slice none 0 0, .int .i64 0], []⟩).memory :=
  laidMet_laidAll _ (by kernel_rfl) (by kernel_rfl)
set_option maxRecDepth 100000 in
theorem reads (os : Os) {H : Type} (enc : TypeId × Value → H) : ∃ places, DataW.whole enc Tryz.prog ((World.laidAll Tryz.prog os Rows.wireBackRow.laid).forCall (fun _ _ => 0) ⟨#[], #[.agg #[.string ⟨#[]⟩, .string ⟨#[]⟩, .string ⟨#[]⟩, .slice none 0 0], .slice none 0 0, .int .i64 0], []⟩).memory Tryz.f6.params.toList Rows.wireBackSpec.vars false (#[.agg #[.string ⟨#[]⟩, .string ⟨#[]⟩, .string ⟨#[]⟩, .slice none 0 0], .slice none 0 0, .int .i64 0] : Array Value).toList 8 = some ([.agg [.lit (.string []), .lit (.string []), .lit (.string []), .nil], .nil, .lit (.int .i64 0)], [], places) :=
  ⟨[], by kernel_rfl⟩
set_option maxRecDepth 100000 in
theorem lifted (os : Os) (started : os.Started) (H : Type) (enc : TypeId × Value → H) (F : Stop.Interp) :
    ReturnsInHanded {} Tryz.checked os 6 .any ((OpenSpec.ofChange Rows.wireBackSpec).preRow enc Tryz.prog Tryz.f6 Rows.wireBackRow.domain false Rows.wireBackRow.laid) (((OpenSpec.ofChange Rows.wireBackSpec).at F).post enc Tryz.prog Tryz.f6 false true false false) := by
  obtain ⟨places, hx⟩ := reads os enc
  refine returnsInHanded_of_row (C := Tryz.checked) (s := OpenSpec.ofChange Rows.wireBackSpec) own started (by kernel_rfl) Tryz.func6
    (witness_row_zip (enc := enc) (C := Tryz.checked) false (World.laidAll Tryz.prog os Rows.wireBackRow.laid) #[.agg #[.string ⟨#[]⟩, .string ⟨#[]⟩, .string ⟨#[]⟩, .slice none 0 0], .slice none 0 0, .int .i64 0] (World.laidAll_os _ _ _) (World.shaped_of_ZipB (by kernel_rfl) (by kernel_rfl)) (by kernel_rfl)
      (OpenSpec.preRow_of_cond 8 hx (by kernel_rfl) (fun k hk => by cases hk) (by kernel_rfl) (laid_met os))) ?_
  intro W base args ds gs before hval hW _ _ _ hL hsh _
  exact contract H enc W base args ds gs before hval hW hL hsh
theorem said : Rows.WireBackSaid :=
  OpenClaim.holds_of_cond 6 Tryz.f6 rfl rfl rfl rfl rfl rfl rfl ⟨rfl, rfl, rfl, rfl, rfl⟩ rfl rfl rfl rfl rfl (by kernel_rfl) Tryz.func6 (by kernel_rfl)
    (of_decide_eq_true (by kernel_rfl)) (by unfold Func.isWrapper; first | (rw [if_pos (by decide +kernel)]; kernel_rfl) | (rw [if_neg (by decide +kernel)]; exact ⟨rfl, rfl⟩))
    (fun os started H enc _ F => by rw [OpenClaim.pre_eq_preRow]; exact lifted os started H enc F)
theorem plain (f : FuncId) (fn : Func) (hf : Tryz.pinned.checked.prog.funcNamed "inquest/inquestlaw13.WireBack" = some f) (hfn : Tryz.pinned.checked.prog.funcs[f]? = some fn) :
    true = Tryz.pinned.checked.prog.looks [] ∧ ∀ (j : Nat) t, fn.params[j]? = some t → Tryz.pinned.checked.prog.wantsStandIn t = false := by
  obtain rfl : f = 6 := Option.some.inj ((show Tryz.prog.funcNamed "inquest/inquestlaw13.WireBack" = some 6 by kernel_rfl).symm.trans hf) |>.symm
  obtain rfl : fn = Tryz.f6 := (Option.some.inj (Tryz.func6.symm.trans hfn)).symm
  refine ⟨by kernel_rfl, fun j t ht => ?_⟩
  rw [Tryz.params6] at ht
  have hall : ([26, 22, 3].all fun u => !Tryz.prog.wantsStandIn u) = true := by kernel_rfl
  have hm : t ∈ [26, 22, 3] := by simpa using Array.mem_of_getElem? ht
  exact (show Tryz.prog.wantsStandIn t = false by simpa using List.all_eq_true.1 hall t hm)
/-- the tied card -/
theorem card : Rows.WireBackCardSaid :=
  Claim7.holds_tied_plain_at .later [] _ _ _ _ said (fun _ h => by cases h) (by kernel_rfl) (fun _ h => by cases h) wireBack_row_tie rfl ⟨rfl, rfl⟩ (by kernel_rfl) rfl plain (by kernel_rfl)
end Go.Proofs.YtdameoejigpnhaaGreatDoor.wireBack
namespace Go.Proofs.YtdameoejigpnhaaGreatDoor
theorem wireBack_holds : Rows.WireBackCardSaid := wireBack.card
#print axioms wireBack_holds
end Go.Proofs.YtdameoejigpnhaaGreatDoor
