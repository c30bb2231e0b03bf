/- EntryBack: an entry is read as it was written, and what is read, written again, is the bytes. -/
import Derived.Test.YtlodbkjjkhpbaaaRows
import Derived.Test.YtlodbkjjkhpbaaaEnIn
import Derived.Test.YtlodbkjjkhpbaaaBtIn
import Derived.Test.YtlodbkjjkhpbaaaEnLaw
import Derived.Test.YtlodbkjjkhpbaaaEnDec2
import Derived.Test.YtlodbkjjkhpbaaaSame
import Derived.Test.YtlodbkjjkhpbaaaCut
import Derived.WalkKit
import Derived.ProofKit
import Derived.OpenShut
import Derived.ShutString
import Derived.ChangeOld
import Derived.Below
namespace Go.Proofs.Ytlodbkjjkhpbaaa.entryBack
open Go.ChangeShapes Go.WideShapes Go.ChangeAt Go.RowKit
open Go.ChangeMaps (open_string shut_string)
set_option linter.unusedVariables false

theorem own : ownKnob Try.prog.godebug = none := by kernel_rfl
theorem laidOut : laidOutB Try.prog = true := by kernel_rfl

theorem dec_enc {e : En} (hd : EnD e) (h : chkN e = 0) : decN (enL e) = (e, 0) := decN_enL (chkN_can h) hd.1 hd.2
theorem iv_of {w : World} {base n c : Nat} {a : Option Addr} {L : List Int} (h : w.ownsRow base 3 1 (.slice a n c) n (L.flatMap ivC)) : Ivs w a n c L := by
  obtain ⟨ai, ci, e, hIV⟩ := Ls.of_owns ivC_len h (by have := h.1; rw [iv_map, List.length_map] at this; omega)
  cases e
  exact hIV

set_option maxRecDepth 100000 in
set_option maxHeartbeats 8000000 in
theorem walk (e : En) (ea0 : Option Addr) (el0 ec0 : Nat) (a1 : Option Addr) (len1 cap1 : Nat) (b : List Int) (w : World) (he : EnI w e ea0 el0 ec0) (hb : Bts w a1 len1 cap1 b) :
    Calls Try.prog 4 #[.agg (enA e ea0 el0 ec0), .slice a1 len1 cap1] w fun e w' => e = .returned (.bool true) ∧ Below w.heap.size w w' := by
  have HE := Bx.mk he
  have HBT := Bx.mk hb
  have hb0 : Below w.heap.size w (w.alloc (.cells (enA e ea0 el0 ec0) 28)) := (Below.refl _ _).alloc (Nat.le_refl _) _
  have hr0 := EnB.new (a := ea0) (n := el0) (c := ec0) w he.dig
  have HB0 := Bx.mk hb0
  have HR0 := Bx.mk hr0
  have HI0 := Bx.mk (he.iv.below hb0)
  have HD0 := Bx.mk he.dig
  have HBT0 := Bx.mk (hb.below hb0)
  obtain ⟨g2, HG2⟩ : ∃ g2, Bx (g2 = w.heap.size) := ⟨_, ⟨rfl⟩⟩
  rw [← HG2.out] at HR0
  clear hb0 hr0 he hb
  go_enter Try.func4, Try.ntmps4
  go_upto_region 1 with fail
  rw [← HG2.out]
  generalize w.alloc (.cells (enA e ea0 el0 ec0) 28) = wa at HB0 HR0 HI0 HBT0 ⊢
  go_wp2_with (refine wpList_load_en rfl (.tmp 2) rfl rfl HR0.out ?_)
  refine (cut20_any e ea0 el0 ec0 _ HI0.out HD0.out).mono ?_
  rintro x w1 ⟨a5, n5, c5, rfl, ho1, hb1⟩
  have HR1 := Bx.mk (HR0.out.below hb1)
  have HI1 := Bx.mk (iv_of ho1)
  have HB1 := Bx.mk (bstep HB0.out hb1)
  have HBT1 := Bx.mk (HBT0.out.below hb1)
  have HGO : Bx (∀ p, a5 = some p → g2 < p.block) := ⟨fun p e => by subst e; have h1 := (ho1.lt p.block rfl).1; have h2 := HR0.out.lt; omega⟩
  clear ho1 hb1 HR0 HI0 HB0 HBT0
  go_wp2_with fail
  refine (cut_any a1 len1 cap1 300 b _ HBT1.out (by decide)).mono ?_
  rintro x w2 ⟨⟨lb, rfl, hbb⟩, hw2⟩
  subst hw2
  obtain ⟨B, HBE⟩ : ∃ B, Bx (b.take 300 = B) := ⟨_, ⟨rfl⟩⟩
  rw [HBE.out] at hbb
  have HD1 : Bx (EnD (cutE e)) := ⟨HD0.out⟩
  have HTH : Bx (w1.there g2 0 (enA (cutE e) a5 n5 c5).size) := ⟨(HR1.out.nv (N0 := 0) (Nat.zero_le _)).en_there HD1.out⟩
  have HR2 : Bx (EnB (w1.setCells g2 0 (enA (cutE e) a5 n5 c5).toList) g2 (cutE e) a5 n5 c5) := ⟨(HR1.out.nv (N0 := 0) (Nat.zero_le _)).en HD1.out⟩
  have HB2 : Bx (Below w.heap.size w (w1.setCells g2 0 (enA (cutE e) a5 n5 c5).toList)) := ⟨below_setCells HB1.out g2 (by rw [HG2.out]; exact Nat.le_refl _) _ _⟩
  have HI2 : Bx (Ivs (w1.setCells g2 0 (enA (cutE e) a5 n5 c5).toList) a5 n5 c5 (cutE e).o) := ⟨HI1.out.keep (fun p e _ => setCells_other (by have := HGO.out p e; omega) _ _) (by rw [setCells_size]; exact Nat.le_refl _)⟩
  have HBB : Bx (Bts w a1 lb cap1 B) := ⟨by
    have := HBT.out.cut lb (by have h1 := hbb.len_eq; have h2 := HBT.out.len_eq; rw [← HBE.out, List.length_take] at h1; omega)
    refine this.list ?_
    rw [← HBE.out]
    have h1 := hbb.len_eq
    rw [← HBE.out, List.length_take] at h1
    by_cases hc : 300 ≤ b.length
    · rw [show lb = 300 from by omega]
    · rw [List.take_of_length_le (by omega), List.take_of_length_le (by omega)]⟩
  clear hbb HR1 HI1 HB1 HBT1
  go_upto_region 2 with (refine wpList_store_mid rfl 28 (.tmp 2) (.tmp 13) rfl g2 0 (enA (cutE e) a5 n5 c5) rfl rfl HTH.out (enA_info HD1.out) enA_one ?_)
  generalize w1.setCells g2 0 (enA (cutE e) a5 n5 c5).toList = w2 at HTH HR2 HB2 HI2 ⊢
  generalize cutE e = E at HTH HR2 HI2 HD1 ⊢
  replace HBB := Bx.mk (HBB.out.below HB2.out)
  clear HTH HE HBT HGO
  -- the entry is written
  go_wp2_with (refine wpList_load_en rfl (.tmp 2) rfl rfl HR2.out ?_)
  refine (encode20_any E a5 n5 c5 _ HI2.out HD1.out).mono ?_
  rintro x w3 ⟨v3, rfl, ho3, hb3⟩
  have HR3 := Bx.mk (HR2.out.below hb3)
  have HI3 := Bx.mk (HI2.out.below hb3)
  have HB3 := Bx.mk (bstep HB2.out hb3)
  have HO3 := Bx.mk ho3
  replace HBB := Bx.mk (HBB.out.below hb3)
  clear ho3 hb3 HR2 HI2 HB2
  rcases chkN_ways E with hok | hok
  · have HDE : Bx (decN (enL E) = (E, 0)) := ⟨dec_enc HD1.out hok⟩
    have HEL : Bx (Byt (enL E) ∧ (enL E).length ≤ 160) := ⟨enL_byt (chkN_can hok) HD1.out.1 HD1.out.2, enL_len (chkN_can hok) HD1.out.1 HD1.out.2⟩
    rw [encN_ok hok] at HO3
    rw [hok]
    clear hok
    obtain ⟨a4, c4, rfl, hT⟩ := Bts.of_owns HO3.out HEL.out.1
    have HT := Bx.mk hT
    have hl200 : (enL E).length ≤ 160 := HEL.out.2
    obtain ⟨TX, HTX⟩ : ∃ TX, Bx (enL E = TX) := ⟨_, ⟨rfl⟩⟩
    rw [HTX.out] at HT HDE hl200 ⊢
    clear hT HO3 HEL
    go_wp2_with fail
    refine (decode20_any a4 TX.length c4 TX _ HT.out).mono ?_
    rintro x w4 ⟨a7, n7, c7, rfl, ho4, hb4⟩
    rw [HDE.out] at ho4 ⊢
    simp only at ho4
    have hev := en_var w4 (e := E) (a := a7) (n := n7) (c := c7) HD1.out
    have HEV := Bx.mk hev.1
    have HET := Bx.mk hev.2.2
    have HB5 := Bx.mk (bstep (bstep HB3.out hb4) hev.2.1)
    have HI7 := Bx.mk ((iv_of ho4).below hev.2.1)
    have HR5 := Bx.mk ((HR3.out.below hb4).below hev.2.1)
    have HI5 := Bx.mk ((HI3.out.below hb4).below hev.2.1)
    replace HBB := Bx.mk ((HBB.out.below hb4).below hev.2.1)
    obtain ⟨g7, HG7⟩ : ∃ g7, Bx (g7 = w4.heap.size) := ⟨_, ⟨rfl⟩⟩
    have hzv := en0_run
    clear hev ho4 hb4 HR3 HI3 HB3
    go_upto_region 5 with (refine wpList_store_mid rfl 28 (.tmp 7) (.tmp 26) rfl w4.heap.size 0 (enA E a7 n7 c7) rfl rfl HET.out (enA_info HD1.out) enA_one ?_)
    generalize (w4.alloc (.cells (enA en0 none 0 0) 28)).setCells w4.heap.size 0 (enA E a7 n7 c7).toList = w5 at HEV HET HB5 HI7 HR5 HI5 HBB ⊢
    rw [← HG7.out] at HEV ⊢
    go_wp2_with (first | (refine wpList_load_en rfl (.tmp 7) rfl rfl HEV.out ?_) | (refine wpList_load_en rfl (.tmp 2) rfl rfl HR5.out ?_))
    refine (same20_yes E a7 a5 n7 c7 n5 c5 _ HI7.out HI5.out HD1.out).mono ?_
    rintro x w8 ⟨rfl, hb8⟩
    replace HBB := Bx.mk (HBB.out.below hb8)
    have HB8 := Bx.mk (bstep HB5.out hb8)
    have hl2 : ¬ (200 : Int) < ((TX.length : Nat) : Int) := by omega
    clear hb8 HEV HET HB5 HI7 HR5 HI5 HT HDE
    go_upto_region 7 with fail
    clear hl2 hl200
    -- the bytes are read
    go_wp2_with fail
    refine (decode20_any a1 lb cap1 B _ HBB.out).mono ?_
    rintro x w6 ⟨a6, n6, c6, rfl, ho6, hb6⟩
    have HD6 : Bx (EnD (decN B).1) := ⟨decN_dig HBB.out.byt⟩
    have hev := en_var w6 (e := (decN B).1) (a := a6) (n := n6) (c := c6) HD6.out
    have HEV := Bx.mk hev.1
    have HET := Bx.mk hev.2.2
    have HB7 := Bx.mk (bstep (bstep HB8.out hb6) hev.2.1)
    have HI7 := Bx.mk ((iv_of ho6).below hev.2.1)
    have HBB7 := Bx.mk ((HBB.out.below hb6).below hev.2.1)
    obtain ⟨g9, HG9⟩ : ∃ g9, Bx (g9 = w6.heap.size) := ⟨_, ⟨rfl⟩⟩
    clear hev ho6 hb6 HBB
    go_upto_region 8 with (refine wpList_store_mid rfl 28 (.tmp 9) (.tmp 44) rfl w6.heap.size 0 (enA (decN B).1 a6 n6 c6) rfl rfl HET.out (enA_info HD6.out) enA_one ?_)
    generalize (w6.alloc (.cells (enA en0 none 0 0) 28)).setCells w6.heap.size 0 (enA (decN B).1 a6 n6 c6).toList = w7 at HEV HET HB7 HI7 HBB7 ⊢
    rw [← HG9.out] at HEV ⊢
    rcases decN_err B with hok | hno
    · obtain ⟨hcan, htx, _⟩ := decN_back hok
      have HCK : Bx (chkN (decN B).1 = 0) := ⟨by unfold chkN; rw [if_pos hcan]⟩
      have HTX : Bx (encN (decN B).1 = B) := ⟨by rw [encN_ok HCK.out, htx]⟩
      rw [hok]
      clear hok hcan htx
      generalize (decN B).1 = D at HD6 HEV HI7 HCK HTX ⊢
      go_wp2_with (refine wpList_load_en rfl (.tmp 9) rfl rfl HEV.out ?_)
      refine (encode20_any D a6 n6 c6 _ HI7.out HD6.out).mono ?_
      rintro x w8 ⟨v8, rfl, ho8, hb8⟩
      rw [HCK.out]
      rw [HTX.out] at ho8
      obtain ⟨a8, c8, rfl, hb8t⟩ := Bts.of_owns ho8 HBB7.out.byt
      have HT8 := Bx.mk hb8t
      have HBB8 := Bx.mk (HBB7.out.below hb8)
      have HB8 := Bx.mk (bstep HB7.out hb8)
      clear ho8 hb8 hb8t HEV HI7 HB7 HBB7
      go_wp2_with fail
      refine (same_yes a8 a1 B.length lb c8 cap1 B _ HT8.out HBB8.out).mono ?_
      rintro x w9 ⟨rfl, nq, rfl⟩
      have HB9 := Bx.mk (below_drewN HB8.out nq)
      generalize w8.drewN nq = w9 at HB9 ⊢
      clear HT8 HBB8 HB8
      go_wp2_with fail
      refine (lives20_any _).mono ?_
      rintro x wz ⟨rfl, hbz⟩
      have HBZ := Bx.mk (bstep HB9.out hbz)
      clear hbz HB9
      go_wp2_with fail
      go_ret
      exact ⟨rfl, HBZ.out⟩
    · rw [hno] at HEV HI7 HD6 ⊢
      simp only at HEV HI7 HD6
      clear hno
      go_wp2_with (refine wpList_load_en rfl (.tmp 9) rfl rfl HEV.out ?_)
      refine (same20_yes en0 a6 none n6 c6 0 0 _ HI7.out (Ls.empty _) HD6.out).mono ?_
      rintro x w8 ⟨rfl, hb8⟩
      have HB8 := Bx.mk (bstep HB7.out hb8)
      clear hb8 HB7 HEV HI7
      go_wp2_with fail
      refine (lives20_any _).mono ?_
      rintro x wz ⟨rfl, hbz⟩
      have HBZ := Bx.mk (bstep HB8.out hbz)
      clear hbz HB8
      go_wp2_with fail
      go_ret
      exact ⟨rfl, HBZ.out⟩
  · rw [hok]
    have hzv := en0_run
    clear hok HO3 HR3 HI3
    -- the bytes are read
    go_wp2_with fail
    refine (decode20_any a1 lb cap1 B _ HBB.out).mono ?_
    rintro x w6 ⟨a6, n6, c6, rfl, ho6, hb6⟩
    have HD6 : Bx (EnD (decN B).1) := ⟨decN_dig HBB.out.byt⟩
    have hev := en_var w6 (e := (decN B).1) (a := a6) (n := n6) (c := c6) HD6.out
    have HEV := Bx.mk hev.1
    have HET := Bx.mk hev.2.2
    have HB7 := Bx.mk (bstep (bstep HB3.out hb6) hev.2.1)
    have HI7 := Bx.mk ((iv_of ho6).below hev.2.1)
    have HBB7 := Bx.mk ((HBB.out.below hb6).below hev.2.1)
    obtain ⟨g9, HG9⟩ : ∃ g9, Bx (g9 = w6.heap.size) := ⟨_, ⟨rfl⟩⟩
    clear hev ho6 hb6 HBB
    go_upto_region 8 with (refine wpList_store_mid rfl 28 (.tmp 9) (.tmp 44) rfl w6.heap.size 0 (enA (decN B).1 a6 n6 c6) rfl rfl HET.out (enA_info HD6.out) enA_one ?_)
    generalize (w6.alloc (.cells (enA en0 none 0 0) 28)).setCells w6.heap.size 0 (enA (decN B).1 a6 n6 c6).toList = w7 at HEV HET HB7 HI7 HBB7 ⊢
    rw [← HG9.out] at HEV ⊢
    rcases decN_err B with hok | hno
    · obtain ⟨hcan, htx, _⟩ := decN_back hok
      have HCK : Bx (chkN (decN B).1 = 0) := ⟨by unfold chkN; rw [if_pos hcan]⟩
      have HTX : Bx (encN (decN B).1 = B) := ⟨by rw [encN_ok HCK.out, htx]⟩
      rw [hok]
      clear hok hcan htx
      generalize (decN B).1 = D at HD6 HEV HI7 HCK HTX ⊢
      go_wp2_with (refine wpList_load_en rfl (.tmp 9) rfl rfl HEV.out ?_)
      refine (encode20_any D a6 n6 c6 _ HI7.out HD6.out).mono ?_
      rintro x w8 ⟨v8, rfl, ho8, hb8⟩
      rw [HCK.out]
      rw [HTX.out] at ho8
      obtain ⟨a8, c8, rfl, hb8t⟩ := Bts.of_owns ho8 HBB7.out.byt
      have HT8 := Bx.mk hb8t
      have HBB8 := Bx.mk (HBB7.out.below hb8)
      have HB8 := Bx.mk (bstep HB7.out hb8)
      clear ho8 hb8 hb8t HEV HI7 HB7 HBB7
      go_wp2_with fail
      refine (same_yes a8 a1 B.length lb c8 cap1 B _ HT8.out HBB8.out).mono ?_
      rintro x w9 ⟨rfl, nq, rfl⟩
      have HB9 := Bx.mk (below_drewN HB8.out nq)
      generalize w8.drewN nq = w9 at HB9 ⊢
      clear HT8 HBB8 HB8
      go_wp2_with fail
      refine (lives20_any _).mono ?_
      rintro x wz ⟨rfl, hbz⟩
      have HBZ := Bx.mk (bstep HB9.out hbz)
      clear hbz HB9
      go_wp2_with fail
      go_ret
      exact ⟨rfl, HBZ.out⟩
    · rw [hno] at HEV HI7 HD6 ⊢
      simp only at HEV HI7 HD6
      clear hno
      go_wp2_with (refine wpList_load_en rfl (.tmp 9) rfl rfl HEV.out ?_)
      refine (same20_yes en0 a6 none n6 c6 0 0 _ HI7.out (Ls.empty _) HD6.out).mono ?_
      rintro x w8 ⟨rfl, hb8⟩
      have HB8 := Bx.mk (bstep HB7.out hb8)
      clear hb8 HB7 HEV HI7
      go_wp2_with fail
      refine (lives20_any _).mono ?_
      rintro x wz ⟨rfl, hbz⟩
      have HBZ := Bx.mk (bstep HB8.out hbz)
      clear hbz HB8
      go_wp2_with fail
      go_ret
      exact ⟨rfl, HBZ.out⟩

set_option maxRecDepth 100000 in
theorem lifted (os : Os) (started : os.Started) (H : Type) (enc : TypeId × Value → H) :
    ReturnsInHanded {} Try.checked os 4 .any (Rows.entryBackSpec.pre6 enc Try.prog Try.f4 Rows.entryBackRow.domain false) (Rows.entryBackSpec.post enc Try.prog Try.f4 false true false false) := by
  refine returnsInHanded_of_change (C := Try.checked) own started (by kernel_rfl) Try.func4
    (ChangeSpec.witness6 (enc := enc) (C := Try.checked) false ⟨#[], #[.agg (enA en0 none 0 0), .slice none 0 0], []⟩ 8 (by kernel_rfl) (by kernel_rfl) (by kernel_rfl) (by kernel_rfl)) ?_
  intro W base args ds gs before hval0 hW hcnd _
  have hval : ∀ (j : Nat) t v, Try.f4.params[j]? = some t → args[j]? = some v → Value.okWide Try.prog W .any base t v := hval0
  have hW' := hW
  obtain ⟨p, q, hA0, hV, rfl, hfz, hnd⟩ := hW
  have hA : DataW.TrodAll enc Try.prog W 0 (fun _ => true) true Try.f4.params.toList args.toList ds p := hA0
  rw [Try.params4] at hA hval
  obtain ⟨v0, vs0, d0, ds0, p0, q0, hargs, rfl, rfl, h0, r0⟩ := trodAll_cons hA
  obtain ⟨v1, vs1, d1, ds1, p1, q1, rfl, rfl, rfl, h1, r1⟩ := trodAll_cons r0
  obtain ⟨rfl, rfl, rfl⟩ := trodAll_nil r1
  obtain rfl : args = #[v0, v1] := by cases args; simp_all
  obtain ⟨rfl, rfl⟩ := trodVars_none hV
  obtain ⟨a1, len1, cap1, rfl⟩ := okWide_slice Try.underlying29 (hval 1 29 v1 rfl rfl)
  have k0 := h0
  have lt0 : ∀ x ∈ p0, x.block < W.heap.size := by obtain ⟨m, hm⟩ := k0; exact DataW.trod_lt m _ _ _ hm
  have k1 := h1
  have lt1 : ∀ x ∈ p1, x.block < W.heap.size := by obtain ⟨m, hm⟩ := k1; exact DataW.trod_lt m _ _ _ hm
  obtain ⟨e, ea0, el0, ec0, rfl, he⟩ := open_ent (hval 0 28 v0 rfl rfl) h0
  obtain ⟨b, hb⟩ := open_byt h1
  clear hA0 hval0
  refine (walk e ea0 el0 ec0 a1 len1 cap1 b W he hb).mono fun e W' ⟨he, bel⟩ => ?_
  subst he
  exact ⟨_, rfl, _, _, _, [], _, [], hW', trodAll_mk1 (shut_bool Try.underlying4 _), (trodAll_cons_mk (Below.trod laidOut (by kernel_rfl) (of_decide_eq_true (by kernel_rfl)) k0 bel lt0) (trodAll_cons_mk (Below.trod laidOut (by kernel_rfl) (of_decide_eq_true (by kernel_rfl)) k1 bel lt1) trodAll_mk0)), rfl, bel.frame _, fun h => by cases h⟩

theorem over : Rows.entryBackRow.holds Try.pinned (OpenSpec.ofChange Rows.entryBackSpec) :=
  OpenClaim.holds_of_wide 4 Try.f4 rfl rfl rfl rfl rfl rfl rfl ⟨rfl, rfl, rfl, rfl, rfl⟩ rfl rfl rfl rfl rfl (by kernel_rfl) Try.func4 (by kernel_rfl)
    (of_decide_eq_true (by kernel_rfl)) (by unfold Func.isWrapper; first | (rw [if_pos (by decide +kernel)]; kernel_rfl) | (rw [if_neg (by decide +kernel)]; exact ⟨rfl, rfl⟩))
    (fun os started H enc _ => lifted os started H enc)

/-- the statement -/
theorem proved : Rows.EntryBackSaid := over
end Go.Proofs.Ytlodbkjjkhpbaaa.entryBack
namespace Go.Proofs.Ytlodbkjjkhpbaaa
theorem entryBack_holds : Rows.EntryBackSaid := entryBack.proved
#print axioms entryBack_holds
end Go.Proofs.Ytlodbkjjkhpbaaa
