/- For every ask and every text the law RouteBack returns true and the ask reads as it did (P23.3): what is printed is parsed as it was, and is a request of the wire with any token, as long as its body is. The library's tables and errors, and the package's table of targets, are as the program's text lays them (the card ties them). -/
import Derived.Test.YtpfijaojgeceeaaGreatDoorTDoor
import Derived.LaidMore
import Derived.Lay
import Derived.Test.YtpfijaojgeceeaaGreatDoorWDoor
import Derived.Test.YtpfijaojgeceeaaGreatDoorAuab
import Derived.Test.YtpfijaojgeceeaaGreatDoorRfSame
import Derived.Test.YtpfijaojgeceeaaGreatDoorAuac
import Derived.Test.YtpfijaojgeceeaaGreatDoorAuak
import Derived.Test.YtpfijaojgeceeaaGreatDoorAskCut
import Derived.Test.YtpfijaojgeceeaaGreatDoorRqSame
import Derived.Test.YtpfijaojgeceeaaGreatDoorAuaa
import Derived.Test.YtpfijaojgeceeaaGreatDoorAuaf
import Derived.WalkKit
import Derived.ShutString
import Derived.ChangeOld
import Derived.Below
namespace Go.Proofs.YtpfijaojgeceeaaGreatDoor.routeBack
open Go.ChangeShapes Go.WideShapes Go.ChangeAt Go.RowKit
open Go.ChangeMaps (open_string shut_string)
set_option linter.unusedVariables false

theorem laidOut : laidOutB Tryz.prog = true := by kernel_rfl

theorem asE_self (a : As) : asE a a = true := (asE_iff a a).2 rfl
theorem smW_same (x : WX) : smW x x = true := (smW_iff x x).2 rfl
theorem ctA_twice (a : As) : ctA (ctA a) = ctA a := ctA_id (ctT_size _ _) (ctT_size _ _) (by show (a.b.take 4200).length ≤ 4200; rw [List.length_take]; omega)
theorem wrt_size {a : As} (hA : V64 a.A) (hB : V64 a.B) (h1 : a.nm.size ≤ 30) (h2 : a.sp.size ≤ 30) : (wrtV a).t.size ≤ 1000000 := by
  unfold wrtV
  cases hf : rtL.find? (fun r => decide (r.k = a.k)) with
  | none => exact Nat.zero_le _
  | some r =>
    show (tgtR r a).size ≤ _
    obtain ⟨j, hj, hjr⟩ := List.getElem_of_mem (List.mem_of_find?_eq_some hf)
    have hj10 : j < 10 := hj
    have e : rtL.getD j rt0 = r := by rw [List.getD_eq_getElem?_getD, List.getElem?_eq_getElem hj]; exact hjr
    obtain ⟨_, hps, _, _⟩ := rt_pts j hj10
    obtain ⟨_, hpl⟩ := rt_small j hj10
    rw [e] at hps hpl
    unfold tgtR
    have h3 : ∀ s ∈ (ptsR r).map (wrPc a), s.size ≤ 2000 := fun s hs => by
      obtain ⟨p, hp, rfl⟩ := List.mem_map.1 hs
      exact wrPc_size hA hB (by omega) (by omega) (hps p hp)
    have h4 := joinS_len h3
    rw [Lib.size_eq]
    show (Lib.join _ [47]).length ≤ _
    rw [List.length_map] at h4
    have h5 : (2000 + 1) * (ptsR r).length ≤ 2001 * 4 := Nat.mul_le_mul_left _ hpl
    omega
theorem bts_own {w : World} {B n c : Nat} {a : Option Addr} {l : List Int} (h : w.ownsRow B 5 1 (.slice a n c) n (bv l)) (hl : Byt l) : Bts w a n c l := by
  obtain ⟨a2, c2, e, hb⟩ := Bts.of_owns h hl
  cases e; exact hb
theorem btsA_off {w : World} {g n c : Nat} {a : Option Addr} {l : List Int} {k A B : Int} {m t : ByteArray} {q : Option Addr} {e f : Nat} (h : Bts w a n c l) (hn : 0 < n) (hr : w.heap[g]? = some (.cells #[.int .i64 k, .string m, .string t, .slice q e f, .int .i64 A, .int .i64 B] 24 (0, 0))) : ∀ p, a = some p → p.block ≠ g := by
  intro p hp hg
  obtain ⟨b, off, e1, _, hc⟩ := h.spot hn
  rw [hp] at e1
  cases e1
  have h0 := hc 0 hn
  have hg2 : b = g := hg
  subst hg2
  rw [Nat.add_zero, cell_of_row w b off _ _ (0, 0) hr] at h0
  match off, h0 with
  | 0, h0 => cases h0
  | 1, h0 => cases h0
  | 2, h0 => cases h0
  | 3, h0 => cases h0
  | 4, h0 => cases h0
  | 5, h0 => cases h0
  | _ + 6, h0 => simp at h0
theorem lnb_of {s : ByteArray} (h : ∀ j, j < s.size → 32 ≤ sb s j ∧ sb s j ≤ 126) : LnB (strL s) := by
  intro c hc
  obtain ⟨j, hj, rfl⟩ := List.getElem_of_mem hc
  have hj2 : j < s.size := by rw [strL_length] at hj; exact hj
  have h1 := h j hj2
  have e : sb s j = (strL s)[j] := by
    have h2 := sb_strOf (strL_byt s) j hj
    rw [strOf_strL] at h2
    rw [h2, List.getD_eq_getElem?_getD, List.getElem?_eq_getElem hj, Option.getD_some]
  rw [← e]; exact h1
theorem prt_code (a : As) : prtV a = (wx0, 2) ∨ (prtV a = (prtX a, 0) ∧ parV (prtX a) = (a, 200)) := by
  by_cases h : (prtV a).2 = 0
  · obtain ⟨h1, h2⟩ := prtV_ok h
    exact .inr ⟨Prod.ext h2 h, h1⟩
  · exact .inl (prtV_no h)
theorem btsQ_off {w : World} {g n c : Nat} {a : Option Addr} {l : List Int} {m t k : ByteArray} {q : Option Addr} {e f : Nat} (h : Bts w a n c l) (hn : 0 < n) (hr : w.heap[g]? = some (.cells #[.string m, .string t, .string k, .slice q e f] 28 (0, 0))) : ∀ p, a = some p → p.block ≠ g := by
  intro p hp hg
  obtain ⟨b, off, e1, _, hc⟩ := h.spot hn
  rw [hp] at e1
  cases e1
  have h0 := hc 0 hn
  have hg2 : b = g := hg
  subst hg2
  rw [Nat.add_zero, cell_of_row w b off _ _ (0, 0) hr] at h0
  match off, h0 with
  | 0, h0 => cases h0
  | 1, h0 => cases h0
  | 2, h0 => cases h0
  | 3, h0 => cases h0
  | _ + 4, h0 => cases h0

set_option maxRecDepth 100000 in
set_option maxHeartbeats 1000000 in
theorem walk (a : As) (a0 : Option Addr) (n0 c0 : Nat) (tk : ByteArray) (w : World) (ha : AskI w a a0 n0 c0) (htk : tk.size ≤ maxLen) (hL : laidMetH Tryz.prog Rows.routeBackRow.laid w) (hsh : w.ShapedOpen Tryz.prog) :
    Calls Tryz.prog 3 #[.agg (askV a a0 n0 c0), .string tk] w fun e w' => e = .returned (.bool true) ∧ Below w.heap.size w w' := by
  have hL' := plainH hL (by kernel_rfl)
  have HEV := Bx.mk (env_at hL' hsh 2 4 5 rfl rfl rfl)
  have hE : RtE w := ⟨tens_at hL' 2 rfl, errs_at hL' 4 5 rfl rfl, rtb_at hL' 6 rfl⟩
  clear hL hL' hsh
  have hR1 := heap_alloc_new w (.cells (askV a a0 n0 c0) 24)
  have hB1 : Below w.heap.size w (w.alloc (.cells (askV a a0 n0 c0) 24)) := (Below.refl _ _).alloc (Nat.le_refl _) _
  have ha1 := ha.below hB1
  have hkA : V64 (ctA a).A := ha.A
  have hkB : V64 (ctA a).B := ha.B
  have HCT : Bx (∀ W, AskI W a a0 n0 c0 → Calls Tryz.prog 4 #[.agg (askV a a0 n0 c0)] W fun e w' => ∃ a' m' c', e = .returned (.agg (askV (ctA a) a' m' c')) ∧ Bts w' a' m' c' (ctA a).b ∧ m' ≤ 4200 ∧ Below W.heap.size W w') := ⟨fun W h => (acut_any a a0 n0 c0 W h).mono fun e w' ⟨a', m', c', h1, h2, _, h4, h5⟩ => ⟨a', m', c', h1, h2, h4, h5⟩⟩
  have HTK : Bx (∀ W, Calls Tryz.prog 5 #[.string tk, .int .i64 60] W fun e w' => e = .returned (.string (ctT tk 60)) ∧ W = w') := ⟨fun W => (scutT tk 60 W (by unfold maxLen at htk; omega)).mono fun e w' h => ⟨h.1, h.2.symm⟩⟩
  have hts := ctT_size tk 60
  have HSN : Bx ((ctA a).nm.size ≤ 30 ∧ (ctA a).sp.size ≤ 30) := ⟨⟨ctT_size _ _, ctT_size _ _⟩⟩
  have HKA := Bx.mk hkA
  have HKB := Bx.mk hkB
  have HE0 := Bx.mk hE
  have HR1 := Bx.mk hR1
  have HB1 := Bx.mk hB1
  have HA1 := Bx.mk ha1
  clear hE hR1 hB1 ha1 ha hkA hkB htk
  generalize ctA a = z at *
  generalize ctT tk 60 = tj at *
  have hts2 : tj.size ≤ 60 := hts
  clear hts
  show Calls Tryz.prog 3 #[.agg #[.int .i64 a.k, .string a.nm, .string a.sp, .slice a0 n0 c0, .int .i64 a.A, .int .i64 a.B], .string tk] w fun e w' => e = .returned (.bool true) ∧ Below w.heap.size w w'
  unfold askV at HR1 HB1 HA1 HCT
  generalize hw1 : w.alloc (.cells #[.int .i64 a.k, .string a.nm, .string a.sp, .slice a0 n0 c0, .int .i64 a.A, .int .i64 a.B] 24) = w1 at *
  go_enter Tryz.func3, Tryz.ntmps3
  go_upto_region 1 with fail
  clear hw1
  go_wp2_with (refine wpList_load_row rfl 24 (.tmp 2) rfl w.heap.size rfl 24 #[.int .i64 a.k, .string a.nm, .string a.sp, .slice a0 n0 c0, .int .i64 a.A, .int .i64 a.B] (0, 0) _ HR1.out Tryz.underlying24 rfl ask_info22 ?_)
  refine (HCT.out _ HA1.out).mono ?_
  rintro e w2 ⟨ya, yn, yc, rfl, hby, hyn, hb2⟩
  have hR2 := (hb2.block _ (Array.getElem?_eq_some_iff.1 HR1.out).1).trans HR1.out
  have hT0 : w2.there w.heap.size 0 6 := there_row hR2
  obtain ⟨AV, hAV⟩ : ∃ AV, AV = askV z ya yn yc := ⟨_, rfl⟩
  obtain ⟨w3, hw3⟩ : ∃ w3, w3 = w2.setCells w.heap.size 0 AV.toList := ⟨_, rfl⟩
  have hAS : AV.size = 6 := by rw [hAV]; rfl
  have HAV : Bx (askV z ya yn yc = AV) := ⟨hAV.symm⟩
  have HR3 : Bx (w3.heap[w.heap.size]? = some (.cells AV 24 (0, 0))) := ⟨by rw [hw3]; exact heap_stored hR2 hAS⟩
  have HB3 : Bx (Below w.heap.size w w3) := ⟨by rw [hw3]; exact below_setCells (bstep HB1.out hb2) _ (Nat.le_refl _) _ 0⟩
  have HY3 : Bx (Bts w3 ya yn yc z.b) := ⟨by rw [hw3]; exact hby.keep (fun hp q hq => setCells_other (btsA_off hby hp hR2 q hq) _ _) (by rw [setCells_size]; exact Nat.le_refl _)⟩
  have HAL : Bx ((AV.all fun x => x.oneCell') = true) := ⟨by rw [hAV]; exact askV_all z ya yn yc⟩
  have HYN := Bx.mk hyn
  have HAI2 : Bx ((Tryz.prog.info? 24).map (·.size) = some AV.size) := ⟨by rw [hAS]; exact ask_info22⟩
  have HTR2 : Bx (w2.there w.heap.size 0 AV.size) := ⟨by rw [hAS]; exact hT0⟩
  have HW3 : Bx (w2.setCells w.heap.size 0 AV.toList = w3) := ⟨hw3.symm⟩
  have HE3 : Bx (RtE w3) := ⟨HE0.out.below HB3.out⟩
  have hprc := print_rt z ya yn yc w3 HY3.out HKA.out HKB.out (by have := HSN.out.1; omega) (by have := HSN.out.2; omega) (by omega) HE3.out (wrt_size HKA.out HKB.out HSN.out.1 HSN.out.2)
  rw [← hAV] at hprc
  have hAE : #[.int .i64 z.k, .string z.nm, .string z.sp, .slice ya yn yc, .int .i64 z.A, .int .i64 z.B] = AV := hAV.symm
  rw [hAE]
  have HPRC := Bx.mk hprc
  clear hby hb2 hR2 HA1 HR1 HB1 HCT hyn hT0 hAV hAE hw3 hAS hprc
  go_wp2_with fail
  refine (HTK.out _).mono ?_
  rintro e w2b ⟨rfl, hw2b⟩
  subst hw2b
  clear HTK
  go_wp2_with (first
    | (refine wpList_store_mid rfl 24 (.tmp 2) (.tmp 16) rfl w.heap.size 0 AV rfl rfl HTR2.out HAI2.out HAL.out ?_; rw [HW3.out])
    | (refine wpList_load_row rfl 24 (.tmp 2) rfl w.heap.size rfl 24 AV (0, 0) _ HR3.out Tryz.underlying24 rfl HAI2.out ?_))
  clear HW3 HTR2
  refine HPRC.out.mono ?_
  rintro e w4 ⟨xa, xc, rfl, hox, hbx, hb4⟩
  clear HPRC
  have HLV : Bx (∀ W, Below w3.heap.size w3 W → Calls Tryz.prog 8 #[] W fun e w' => e = .returned (.bool true) ∧ Below W.heap.size W w') := ⟨fun W h => rtlives_any W (HE3.out.below h)⟩
  have HFIN : Bx (∀ W, Below w3.heap.size w3 W → Below w.heap.size w W) := ⟨fun W h => bstep HB3.out h⟩
  rcases prt_code z with hz | ⟨hz, hpz⟩
  · rw [hz] at hox hbx ⊢
    clear hz
    dsimp only at hox hbx ⊢
    --<
    obtain ⟨x, hx0⟩ : ∃ x, x = wx0 := ⟨_, rfl⟩
    rw [← hx0] at hox hbx ⊢
    have hxl : x.b.length = 0 := by rw [hx0]; rfl
    have hm0 : x.m = ⟨#[]⟩ := by rw [hx0]; rfl
    have ht0 : x.t = ⟨#[]⟩ := by rw [hx0]; rfl
    have hk0 : x.k = ⟨#[]⟩ := by rw [hx0]; rfl
    have hb0 : x.b = [] := by rw [hx0]; rfl
    have HF0 : Bx (x.m = ⟨#[]⟩ ∧ x.t = ⟨#[]⟩ ∧ x.k = ⟨#[]⟩ ∧ x.b = []) := ⟨⟨hm0, ht0, hk0, hb0⟩⟩
    clear hm0 ht0 hk0 hb0 hxl hx0
    have HWN := Bx.mk (heap_alloc_new w4 (.cells #[.string x.m, .string x.t, .string x.k, .slice xa x.b.length xc] 28))
    have HNB : Bx (Below w4.heap.size w4 (w4.alloc (.cells #[.string x.m, .string x.t, .string x.k, .slice xa x.b.length xc] 28))) := ⟨(Below.refl _ _).alloc (Nat.le_refl _) _⟩
    unfold reqV
    go_upto_region 3 with fail
    generalize hw5 : w4.alloc (.cells #[.string x.m, .string x.t, .string x.k, .slice xa x.b.length xc] 28) = w5 at *
    clear hw5
    have hb35 := bstep hb4 HNB.out
    have hbt := (bts_own hox hbx).below HNB.out
    have HSC := Bx.mk (rsame_any x x xa none x.b.length 0 xc 0 w5 hbt (by rw [HF0.out.2.2.2]; exact ⟨rfl, Byt.nil, Nat.le_refl _, Nat.zero_le _, fun _ => rfl, fun h => absurd h (Nat.lt_irrefl _)⟩))
    rw [smW_same] at HSC
    unfold reqV at HSC
    have HSC2 : Bx (Calls Tryz.prog 7 #[.agg #[.string x.m, .string x.t, .string x.k, .slice xa x.b.length xc], .agg #[.string ⟨#[]⟩, .string ⟨#[]⟩, .string ⟨#[]⟩, .slice none 0 0]] w5 fun e w' => e = .returned (.bool true) ∧ Below w5.heap.size w5 w') := ⟨by have h9 := HSC.out; have e1 := HF0.out.1; have e2 := HF0.out.2.1; have e3 := HF0.out.2.2.1; rw [e1, e2, e3] at h9 ⊢; exact h9⟩
    have q0 : w5.cell? ⟨w4.heap.size, 0, none⟩ = some (.string x.m) := by rw [cell_of_row w5 _ 0 _ _ (0, 0) HWN.out]; rfl
    have q1 : w5.cell? ⟨w4.heap.size, 1, none⟩ = some (.string x.t) := by rw [cell_of_row w5 _ 1 _ _ (0, 0) HWN.out]; rfl
    have q2 : w5.cell? ⟨w4.heap.size, 2, none⟩ = some (.string x.k) := by rw [cell_of_row w5 _ 2 _ _ (0, 0) HWN.out]; rfl
    have q3 : w5.cell? ⟨w4.heap.size, 3, none⟩ = some (.slice xa x.b.length xc) := by rw [cell_of_row w5 _ 3 _ _ (0, 0) HWN.out]; rfl
    have HB35 := Bx.mk hb35
    clear hox hbx hb4 hb35 hbt HWN HNB HSC HF0
    go_wp2_with fail
    refine HSC2.out.mono ?_
    rintro e w6 ⟨rfl, hb6⟩
    have hbL : Below w3.heap.size w3 w6 := bstep HB35.out hb6
    clear q0 q1 q2 q3 HSC2 hb6
    go_wp2_with fail
    refine (HLV.out _ hbL).mono ?_
    rintro e wL ⟨rfl, hbLL⟩
    have hfin := HFIN.out _ (bstep hbL hbLL)
    go_wp2_with fail
    go_ret
    exact ⟨rfl, hfin⟩
    -->
  · have hFive : ∀ k : ByteArray, k.size ≤ 60 → Sm5 ⟨(prtX z).m, (prtX z).t, k, (prtX z).b⟩ := fun k hk => prtX_five HSN.out.1 HSN.out.2 HKA.out HKB.out (by have := HY3.out.len_eq; have := HYN.out; omega) hk
    have hts3 : (prtX z).t.size ≤ 1000000 := by have := (hFive ⟨#[]⟩ (by decide)).t; have e : (prtX z).t.size ≤ 200 := this; omega
    have hbl3 : (prtX z).b.length ≤ 5000 := (hFive ⟨#[]⟩ (by decide)).b
    have hk0 : (prtX z).k = ⟨#[]⟩ := rfl
    have HPA : Bx (∀ W b m c, RtE W → Bts W b m c (prtX z).b → m ≤ 1000000 → Calls Tryz.prog 9 #[reqV (prtX z) (.slice b m c)] W (ParP (z, 200) W)) := ⟨fun W b m c h1 h2 h3 => by rw [← hpz, ← rt_par]; exact parse_rt (prtX z) b m c W h2 hts3 h3 h1⟩
    have HBIG : Bx (∀ k, 2048 < (prtX z).b.length → Byt (prtX z).b → prB ⟨(prtX z).m, (prtX z).t, k, (prtX z).b⟩ = false) := ⟨fun k h1 h2 => prt_big k h2 h1⟩
    have HOKB : Bx (∀ k, LnB (strL k) → k.size ≤ 60 → (prtX z).b.length ≤ 2048 → prB ⟨(prtX z).m, (prtX z).t, k, (prtX z).b⟩ = true ∧ runQ wp0 ws0 (wrL ⟨(prtX z).m, (prtX z).t, k, (prtX z).b⟩) 0 = (⟨(prtX z).m, (prtX z).t, k, (prtX z).b⟩, (wrL ⟨(prtX z).m, (prtX z).t, k, (prtX z).b⟩).length, 0)) := ⟨fun k h1 h2 h3 => ⟨prt_wok (by rw [hz]) h1 h2 h3, prt_back (by rw [hz]) h1 h2 h3⟩⟩
    have HFV := Bx.mk hFive
    rw [hz] at hox hbx ⊢
    clear hz hpz hFive hts3
    dsimp only at hox hbx ⊢
    generalize prtX z = x at *
    have HX : Bx (x = ⟨x.m, x.t, ⟨#[]⟩, x.b⟩) := ⟨wx_ext rfl rfl hk0 rfl⟩
    unfold reqV at HPA ⊢
    rw [hk0] at HPA ⊢
    have hN5 := heap_alloc_new w4 (.cells #[.string x.m, .string x.t, .string ⟨#[]⟩, .slice xa x.b.length xc] 28)
    have hNB5 : Below w4.heap.size w4 (w4.alloc (.cells #[.string x.m, .string x.t, .string ⟨#[]⟩, .slice xa x.b.length xc] 28)) := (Below.refl _ _).alloc (Nat.le_refl _) _
    go_upto_region 3 with fail
    generalize hw5 : w4.alloc (.cells #[.string x.m, .string x.t, .string ⟨#[]⟩, .slice xa x.b.length xc] 28) = w5 at *
    clear hw5
    have hb35 := bstep hb4 hNB5
    have HSZ : Bx (w3.heap.size ≤ w4.heap.size) := ⟨hb4.size⟩
    have HX5 := Bx.mk hN5
    have HBX5 := Bx.mk ((bts_own hox hbx).below hNB5)
    have HB35 := Bx.mk hb35
    have HBYT := Bx.mk hbx
    have HPC := Bx.mk (HPA.out w5 xa _ xc (HE3.out.below hb35) HBX5.out (by omega))
    clear hox hb4 hN5 hNB5 hb35 HPA HSN HKA HKB
    go_wp2_with (refine wpList_load_row rfl 28 (.tmp 5) rfl w4.heap.size rfl 28 #[.string x.m, .string x.t, .string ⟨#[]⟩, .slice xa x.b.length xc] (0, 0) _ HX5.out Tryz.underlying28 rfl req_info ?_)
    refine HPC.out.mono ?_
    rintro e w6 ⟨ba, bc, rfl, hob, hbb, hb6⟩
    dsimp only at hob hbb ⊢
    have hN7 := heap_alloc_new w6 (.cells (askV z ba z.b.length bc) 24)
    have hNB7 : Below w6.heap.size w6 (w6.alloc (.cells (askV z ba z.b.length bc) 24)) := (Below.refl _ _).alloc (Nat.le_refl _) _
    unfold askV at hN7 hNB7
    go_upto_region 6 with fail
    generalize hw7 : w6.alloc (.cells #[.int .i64 z.k, .string z.nm, .string z.sp, .slice ba z.b.length bc, .int .i64 z.A, .int .i64 z.B] 24) = w7 at *
    clear hw7
    have hb57 := bstep hb6 hNB7
    have hb37 : Below w3.heap.size w3 w7 := bstep HB35.out hb57
    have hA7 : w7.heap[w.heap.size]? = some (.cells AV 24 (0, 0)) := (hb37.block _ (Array.getElem?_eq_some_iff.1 HR3.out).1).trans HR3.out
    have hX7 : w7.heap[w4.heap.size]? = some (.cells #[.string x.m, .string x.t, .string ⟨#[]⟩, .slice xa x.b.length xc] 28 (0, 0)) := (hb57.block _ (Array.getElem?_eq_some_iff.1 HX5.out).1).trans HX5.out
    have HSM := Bx.mk (rfsame_any z z ya ba yn z.b.length yc bc w7 (HY3.out.below hb37) ((bts_own hob hbb).below hNB7))
    rw [asE_self] at HSM
    unfold askV at HSM
    have m0 : w7.cell? ⟨w.heap.size, 0, none⟩ = some (.int .i64 z.k) := by rw [cell_of_row w7 _ 0 _ _ (0, 0) hA7, ← HAV.out]; rfl
    have m1 : w7.cell? ⟨w.heap.size, 1, none⟩ = some (.string z.nm) := by rw [cell_of_row w7 _ 1 _ _ (0, 0) hA7, ← HAV.out]; rfl
    have m2 : w7.cell? ⟨w.heap.size, 2, none⟩ = some (.string z.sp) := by rw [cell_of_row w7 _ 2 _ _ (0, 0) hA7, ← HAV.out]; rfl
    have m3 : w7.cell? ⟨w.heap.size, 3, none⟩ = some (.slice ya yn yc) := by rw [cell_of_row w7 _ 3 _ _ (0, 0) hA7, ← HAV.out]; rfl
    have m4 : w7.cell? ⟨w.heap.size, 4, none⟩ = some (.int .i64 z.A) := by rw [cell_of_row w7 _ 4 _ _ (0, 0) hA7, ← HAV.out]; rfl
    have m5 : w7.cell? ⟨w.heap.size, 5, none⟩ = some (.int .i64 z.B) := by rw [cell_of_row w7 _ 5 _ _ (0, 0) hA7, ← HAV.out]; rfl
    have x0 : w7.cell? ⟨w6.heap.size, 0, none⟩ = some (.int .i64 z.k) := by rw [cell_of_row w7 _ 0 _ _ (0, 0) hN7]; rfl
    have x1 : w7.cell? ⟨w6.heap.size, 1, none⟩ = some (.string z.nm) := by rw [cell_of_row w7 _ 1 _ _ (0, 0) hN7]; rfl
    have x2 : w7.cell? ⟨w6.heap.size, 2, none⟩ = some (.string z.sp) := by rw [cell_of_row w7 _ 2 _ _ (0, 0) hN7]; rfl
    have x3 : w7.cell? ⟨w6.heap.size, 3, none⟩ = some (.slice ba z.b.length bc) := by rw [cell_of_row w7 _ 3 _ _ (0, 0) hN7]; rfl
    have x4 : w7.cell? ⟨w6.heap.size, 4, none⟩ = some (.int .i64 z.A) := by rw [cell_of_row w7 _ 4 _ _ (0, 0) hN7]; rfl
    have x5 : w7.cell? ⟨w6.heap.size, 5, none⟩ = some (.int .i64 z.B) := by rw [cell_of_row w7 _ 5 _ _ (0, 0) hN7]; rfl
    have HX7 := Bx.mk hX7
    have HBX7 := Bx.mk (HBX5.out.below hb57)
    have HB37 := Bx.mk hb37
    clear hob hb6 hN7 hNB7 hb57 hb37 hA7 hX7 HPC HX5 HBX5 HR3
    go_wp2_with fail
    refine HSM.out.mono ?_
    rintro e w8 ⟨rfl, hb8⟩
    have hb38 : Below w3.heap.size w3 w8 := bstep HB37.out hb8
    have HX8 : Bx (w8.heap[w4.heap.size]? = some (.cells #[.string x.m, .string x.t, .string ⟨#[]⟩, .slice xa x.b.length xc] 28 (0, 0))) := ⟨(hb8.block _ (Array.getElem?_eq_some_iff.1 HX7.out).1).trans HX7.out⟩
    have HBX8 := Bx.mk (HBX7.out.below hb8)
    have HB38 := Bx.mk hb38
    have k2 : w8.cell? ⟨w4.heap.size, 2, none⟩ = some (.string ⟨#[]⟩) := by rw [cell_of_row w8 _ 2 _ _ (0, 0) HX8.out]; rfl
    clear m0 m1 m2 m3 m4 m5 x0 x1 x2 x3 x4 x5 hb8 hb38 HSM HX7 HBX7
    go_wp2_with fail
    clear k2 HAV HB3 HY3 HAL HYN HAI2 HB35 HB37
    go_loopw [9] (fun i wr => ∃ k : Nat, k ≤ tj.size ∧ i = .int .i64 k ∧ wr = w8 ∧ Bx (∀ j, j < k → 32 ≤ sb tj j ∧ sb tj j ≤ 126)) (fun i _ => tj.size - (intOf i).toNat)
    case atStart => exact ⟨0, Nat.zero_le _, rfl, rfl, ⟨fun j hj => by omega⟩⟩
    case round =>
      obtain ⟨k, hk, rfl, hwr, HJ⟩ := hrel
      subst hwr
      by_cases hlt : k < tj.size
      · have hkI : (k : Int) < (tj.size : Int) := by omega
        have hin : (((tj[k]'hlt).toNat : Nat) : Int) = sb tj k := sb_eq tj k hlt
        obtain ⟨C, hC⟩ : ∃ C, C = sb tj k := ⟨_, rfl⟩
        rw [← hC] at hin
        have HC := Bx.mk hC
        clear hC
        have hbL := HB38.out
        by_cases g1 : C < 32
        · go_wp2_with fail
          refine (HLV.out _ hbL).mono ?_
          rintro e wL ⟨rfl, hbLL⟩
          have hfin := HFIN.out _ (bstep hbL hbLL)
          go_wp2_with fail
          go_ret
          exact ⟨rfl, hfin⟩
        · by_cases g2 : 126 < C
          · go_wp2_with fail
            refine (HLV.out _ hbL).mono ?_
            rintro e wL ⟨rfl, hbLL⟩
            have hfin := HFIN.out _ (bstep hbL hbLL)
            go_wp2_with fail
            go_ret
            exact ⟨rfl, hfin⟩
          · have HJ2 : Bx (∀ j, j < k + 1 → 32 ≤ sb tj j ∧ sb tj j ≤ 126) := ⟨fun j hj => by
              by_cases e : j = k
              · rw [e, ← HC.out]; omega
              · exact HJ.out j (by omega)⟩
            have HLT := Bx.mk hlt
            have HTS := Bx.mk hts2
            have hk4 : (k : Int) + 1 ≤ 9223372036854775807 := by omega
            clear HJ HC hbL
            go_wp2_with fail
            go_roundw
            case rel => exact ⟨k + 1, by have := HLT.out; omega, by go_num, by first | rfl | trivial, HJ2⟩
            case measure => have := HLT.out; simp [intOf]; omega
      · have g1 : ¬ (k : Int) < (tj.size : Int) := by omega
        have HLN : Bx (LnB (strL tj)) := ⟨lnb_of (fun j hj => HJ.out j (by omega))⟩
        have k2 : wr.cell? ⟨w4.heap.size, 2, none⟩ = some (.string ⟨#[]⟩) := by rw [cell_of_row wr _ 2 _ _ (0, 0) HX8.out]; rfl
        have f0 := frozen_of_row _ w4.heap.size 2 _ _ HX8.out
        have hX9 : (wr.setCell ⟨w4.heap.size, 2, none⟩ (.string tj)).heap[w4.heap.size]? = some (.cells #[.string x.m, .string x.t, .string tj, .slice xa x.b.length xc] 28 (0, 0)) := heap_setCell_same _ w4.heap.size 2 _ _ (.string tj) HX8.out
        have hBX9 : Bts (wr.setCell ⟨w4.heap.size, 2, none⟩ (.string tj)) xa x.b.length xc x.b := HBX8.out.keep (fun hp p e => heap_setCell_other _ _ _ _ (btsQ_off HBX8.out hp HX8.out p e)) (by show wr.heap.size ≤ (wr.setCells w4.heap.size 2 [.string tj]).heap.size; rw [setCells_size]; exact Nat.le_refl _)
        have hb39 : Below w3.heap.size w3 (wr.setCell ⟨w4.heap.size, 2, none⟩ (.string tj)) := below_setCells HB38.out _ HSZ.out [.string tj] 2
        have HX9 := Bx.mk hX9
        have HBX9 := Bx.mk hBX9
        have HB39 := Bx.mk hb39
        clear HJ hX9 hBX9 hb39 HX8 HBX8 HB38
        go_upto_region 14 with fail
        generalize hw9 : wr.setCell ⟨w4.heap.size, 2, none⟩ (.string tj) = w9 at *
        clear hw9 k2 f0
        have HPR : Bx (Calls Tryz.prog 11 #[.agg #[.string x.m, .string x.t, .string tj, .slice xa x.b.length xc]] w9 (PrP ⟨x.m, x.t, tj, x.b⟩ w9)) := ⟨wprint5_any ⟨x.m, x.t, tj, x.b⟩ xa x.b.length xc w9 HBX9.out (HFV.out tj hts2) (HEV.out.up (HFIN.out _ HB39.out))⟩
        go_wp2_with (refine wpList_load_row rfl 28 (.tmp 5) rfl w4.heap.size rfl 28 #[.string x.m, .string x.t, .string tj, .slice xa x.b.length xc] (0, 0) _ HX9.out Tryz.underlying28 rfl req_info ?_)
        refine HPR.out.mono ?_
        rintro e wP ⟨hbP, hor⟩
        have hXP := (hbP.block _ (Array.getElem?_eq_some_iff.1 HX9.out).1).trans HX9.out
        have k3 : wP.cell? ⟨w4.heap.size, 3, none⟩ = some (.slice xa x.b.length xc) := by rw [cell_of_row wP _ 3 _ _ (0, 0) hXP]; rfl
        have HXP := Bx.mk hXP
        have HBXP := Bx.mk (HBX9.out.below hbP)
        have HB3P := Bx.mk (bstep HB39.out hbP)
        clear hbP hXP HPR HX9 HBX9 HB39
        rcases hor with ⟨hpb, b5, c5, rfl, hbt5⟩ | ⟨hpb, rfl⟩
        · have hle : x.b.length ≤ 2048 := by
            rcases Nat.lt_or_ge 2048 x.b.length with h | h
            · rw [HBIG.out tj h HBYT.out] at hpb; cases hpb
            · exact h
          have g2 : ¬ (2048 : Int) < (x.b.length : Int) := by omega
          have HRQ := Bx.mk (HOKB.out tj HLN.out hts2 hle).2
          clear HOKB HBIG HFV hpb
          generalize wrL ⟨x.m, x.t, tj, x.b⟩ = P at *
          have HWH := Bx.mk (wwhole_any (some ⟨b5, 0, none⟩) P.length c5 P wP hbt5 (HEV.out.up (HFIN.out _ HB3P.out)))
          rw [HRQ.out] at HWH
          clear HRQ hbt5
          go_wp2_with fail
          refine HWH.out.mono ?_
          rintro e w10 ⟨v8, rfl, hy8, ho8, hb8⟩
          obtain ⟨va, vc, rfl, hq8⟩ := wh_body hy8 ho8
          have HQ8 : Bx (Bts w10 va x.b.length vc x.b) := ⟨hq8⟩
          have hN11 := heap_alloc_new w10 (.cells #[.string x.m, .string x.t, .string tj, .slice va x.b.length vc] 28)
          have hNB11 : Below w10.heap.size w10 (w10.alloc (.cells #[.string x.m, .string x.t, .string tj, .slice va x.b.length vc] 28)) := (Below.refl _ _).alloc (Nat.le_refl _) _
          clear hq8 hy8 ho8 HWH k3
          unfold reqV
          dsimp only
          go_upto_region 18 with fail
          generalize hw11 : w10.alloc (.cells #[.string x.m, .string x.t, .string tj, .slice va x.b.length vc] 28) = w11 at *
          clear hw11
          have hbP1 := bstep hb8 hNB11
          have hX11 := (hbP1.block _ (Array.getElem?_eq_some_iff.1 HXP.out).1).trans HXP.out
          have HBX11 := Bx.mk (HBXP.out.below hbP1)
          have HB11 := Bx.mk (bstep HB3P.out hbP1)
          have HQ11 := Bx.mk (HQ8.out.below hNB11)
          have hcs := rsame_any ⟨x.m, x.t, tj, x.b⟩ ⟨x.m, x.t, tj, x.b⟩ xa va x.b.length x.b.length xc vc w11 HBX11.out HQ11.out
          rw [smW_same] at hcs
          have CS : Bx (Calls Tryz.prog 7 #[.agg #[.string x.m, .string x.t, .string tj, .slice xa x.b.length xc], .agg #[.string x.m, .string x.t, .string tj, .slice va x.b.length vc]] w11 fun e w' => e = .returned (.bool true) ∧ Below w11.heap.size w11 w') := ⟨hcs⟩
          have x0 : w11.cell? ⟨w4.heap.size, 0, none⟩ = some (.string x.m) := by rw [cell_of_row w11 _ 0 _ _ (0, 0) hX11]; rfl
          have x1 : w11.cell? ⟨w4.heap.size, 1, none⟩ = some (.string x.t) := by rw [cell_of_row w11 _ 1 _ _ (0, 0) hX11]; rfl
          have x2 : w11.cell? ⟨w4.heap.size, 2, none⟩ = some (.string tj) := by rw [cell_of_row w11 _ 2 _ _ (0, 0) hX11]; rfl
          have x3 : w11.cell? ⟨w4.heap.size, 3, none⟩ = some (.slice xa x.b.length xc) := by rw [cell_of_row w11 _ 3 _ _ (0, 0) hX11]; rfl
          have y0 : w11.cell? ⟨w10.heap.size, 0, none⟩ = some (.string x.m) := by rw [cell_of_row w11 _ 0 _ _ (0, 0) hN11]; rfl
          have y1 : w11.cell? ⟨w10.heap.size, 1, none⟩ = some (.string x.t) := by rw [cell_of_row w11 _ 1 _ _ (0, 0) hN11]; rfl
          have y2 : w11.cell? ⟨w10.heap.size, 2, none⟩ = some (.string tj) := by rw [cell_of_row w11 _ 2 _ _ (0, 0) hN11]; rfl
          have y3 : w11.cell? ⟨w10.heap.size, 3, none⟩ = some (.slice va x.b.length vc) := by rw [cell_of_row w11 _ 3 _ _ (0, 0) hN11]; rfl
          clear hb8 hNB11 hbP1 hX11 hN11 hcs HQ8 HQ11 HBX11 HXP HBXP HB3P
          go_wp2_with fail
          refine CS.out.mono ?_
          rintro e w12 ⟨rfl, hb12⟩
          have hbL := bstep HB11.out hb12
          clear hb12 CS x0 x1 x2 x3 y0 y1 y2 y3 HB11
          go_wp2_with fail
          refine (HLV.out _ hbL).mono ?_
          rintro e wL ⟨rfl, hbLL⟩
          have hfin := HFIN.out _ (bstep hbL hbLL)
          go_wp2_with fail
          go_ret
          exact ⟨rfl, hfin⟩
        · by_cases h : 2048 < x.b.length
          · have g2 : (2048 : Int) < (x.b.length : Int) := by omega
            have hbL := HB3P.out
            go_wp2_with fail
            refine (HLV.out _ hbL).mono ?_
            rintro e wL ⟨rfl, hbLL⟩
            have hfin := HFIN.out _ (bstep hbL hbLL)
            go_wp2_with fail
            go_ret
            exact ⟨rfl, hfin⟩
          · exfalso
            rw [(HOKB.out tj HLN.out hts2 (by omega)).1] at hpb
            cases hpb

set_option maxRecDepth 100000 in
/-- what the walk gives, for every argument and every world that holds the table -/
theorem contract (H : Type) (enc : TypeId × Value → H) (W : World) (base : Nat) (args : Array Value) (ds gs : List (DataW H)) (before : List MemPlace)
    (hval0 : ∀ (j : Nat) t v, Tryz.f3.params[j]? = some t → args[j]? = some v → Value.okWide Tryz.prog W .any base t v)
    (hW : DataW.Whole enc Tryz.prog Tryz.f3.params.toList Rows.routeBackSpec.vars false W args.toList ds gs before) (hL : laidMetH Tryz.prog Rows.routeBackRow.laid W) (hsh : W.ShapedOpen Tryz.prog) :
    Calls Tryz.prog 3 args W fun e W' => ∃ v, e = .returned v ∧ Rows.routeBackSpec.post enc Tryz.prog Tryz.f3 false true false false W args v W' := by
  have hval : ∀ (j : Nat) t v, Tryz.f3.params[j]? = some t → args[j]? = some v → Value.okWide Tryz.prog W .any base t v := hval0
  have hW' := hW
  obtain ⟨p, q, hA0, hV, rfl, hfz, hnd⟩ := hW
  have hA : DataW.TrodAll enc Tryz.prog W 0 (fun _ => true) true Tryz.f3.params.toList args.toList ds p := hA0
  rw [Tryz.params3] at hA hval
  obtain ⟨v0, vs0, d0, ds0, p0, q0, hargs, rfl, rfl, h0, r0⟩ := trodAll_cons hA
  obtain ⟨v1, vs1, d1, ds1, p1, q1, rfl, rfl, rfl, h1, r1⟩ := trodAll_cons r0
  obtain ⟨rfl, rfl, rfl⟩ := trodAll_nil r1
  obtain rfl : args = #[v0, v1] := by cases args; simp_all
  obtain ⟨rfl, rfl⟩ := trodVars_none hV
  have k0 := h0
  have lt0 : ∀ x ∈ p0, x.block < W.heap.size := by obtain ⟨m, hm⟩ := k0; exact DataW.trod_lt m _ _ _ hm
  have k1 := h1
  have lt1 : ∀ x ∈ p1, x.block < W.heap.size := by obtain ⟨m, hm⟩ := k1; exact DataW.trod_lt m _ _ _ hm
  obtain ⟨a, a0, n0, c0, rfl, ha⟩ := open_ask (hval 0 24 v0 rfl rfl) h0
  obtain ⟨tk, rfl, _, _, htk⟩ := open_string Tryz.underlying9 (hval 1 9 v1 rfl rfl) h1
  clear hA0 hval0
  refine (walk a a0 n0 c0 tk W ha htk hL hsh).mono fun e W' ⟨he, bel⟩ => ?_
  subst he
  exact ⟨_, rfl, _, _, _, [], _, [], hW', trodAll_mk1 (shut_bool Tryz.underlying4 _), (trodAll_cons_mk (Below.trod laidOut (by kernel_rfl) (of_decide_eq_true (by kernel_rfl)) k0 bel lt0) (trodAll_cons_mk (Below.trod laidOut (by kernel_rfl) (of_decide_eq_true (by kernel_rfl)) k1 bel lt1) trodAll_mk0)), rfl, bel.frame _, fun h => by cases h⟩

set_option maxRecDepth 100000 in
theorem laid_met (os : Os) : laidMet Tryz.prog Rows.routeBackRow.laid ((World.laidAll Tryz.prog os Rows.routeBackRow.laid).forCall (fun _ _ => 0) ⟨#[], #[.agg (askV as0 none 0 0), .string ⟨#[]⟩], []⟩).memory :=
  laidMet_laidAll _ (by kernel_rfl) (by kernel_rfl)
set_option maxRecDepth 100000 in
theorem reads (os : Os) {H : Type} (enc : TypeId × Value → H) : ∃ places, DataW.whole enc Tryz.prog ((World.laidAll Tryz.prog os Rows.routeBackRow.laid).forCall (fun _ _ => 0) ⟨#[], #[.agg (askV as0 none 0 0), .string ⟨#[]⟩], []⟩).memory Tryz.f3.params.toList Rows.routeBackSpec.vars false (#[.agg (askV as0 none 0 0), .string ⟨#[]⟩] : Array Value).toList 8 = some ([.agg [.lit (.int .i64 0), .lit (.string []), .lit (.string []), .nil, .lit (.int .i64 0), .lit (.int .i64 0)], .lit (.string [])], [], places) :=
  ⟨[], by kernel_rfl⟩
set_option maxRecDepth 100000 in
theorem lifted (os : Os) (started : os.Started) (H : Type) (enc : TypeId × Value → H) (F : Stop.Interp) :
    ReturnsInHanded {} Tryz.checked os 3 .any ((OpenSpec.ofChange Rows.routeBackSpec).preRow enc Tryz.prog Tryz.f3 Rows.routeBackRow.domain false Rows.routeBackRow.laid) (((OpenSpec.ofChange Rows.routeBackSpec).at F).post enc Tryz.prog Tryz.f3 false true false false) := by
  obtain ⟨places, hx⟩ := reads os enc
  refine returnsInHanded_of_row (C := Tryz.checked) (s := OpenSpec.ofChange Rows.routeBackSpec) own started (by kernel_rfl) Tryz.func3
    (witness_row_zip (enc := enc) (C := Tryz.checked) false (World.laidAll Tryz.prog os Rows.routeBackRow.laid) #[.agg (askV as0 none 0 0), .string ⟨#[]⟩] (World.laidAll_os _ _ _) (World.shaped_of_ZipB (by kernel_rfl) (by kernel_rfl)) (by kernel_rfl)
      (OpenSpec.preRow_of_cond 8 hx (by kernel_rfl) (fun k hk => by cases hk) (by kernel_rfl) (laid_met os))) ?_
  intro W base args ds gs before hval hW _ _ _ hL hsh _
  exact contract H enc W base args ds gs before hval hW hL hsh
theorem said : Rows.RouteBackSaid :=
  OpenClaim.holds_of_cond 3 Tryz.f3 rfl rfl rfl rfl rfl rfl rfl ⟨rfl, rfl, rfl, rfl, rfl⟩ rfl rfl rfl rfl rfl (by kernel_rfl) Tryz.func3 (by kernel_rfl)
    (of_decide_eq_true (by kernel_rfl)) (by unfold Func.isWrapper; first | (rw [if_pos (by decide +kernel)]; kernel_rfl) | (rw [if_neg (by decide +kernel)]; exact ⟨rfl, rfl⟩))
    (fun os started H enc _ F => by rw [OpenClaim.pre_eq_preRow]; exact lifted os started H enc F)
theorem plain (f : FuncId) (fn : Func) (hf : Tryz.pinned.checked.prog.funcNamed "inquest/inquestlaw23.RouteBack" = some f) (hfn : Tryz.pinned.checked.prog.funcs[f]? = some fn) :
    true = Tryz.pinned.checked.prog.looks [] ∧ ∀ (j : Nat) t, fn.params[j]? = some t → Tryz.pinned.checked.prog.wantsStandIn t = false := by
  obtain rfl : f = 3 := Option.some.inj ((show Tryz.prog.funcNamed "inquest/inquestlaw23.RouteBack" = some 3 by kernel_rfl).symm.trans hf) |>.symm
  obtain rfl : fn = Tryz.f3 := (Option.some.inj (Tryz.func3.symm.trans hfn)).symm
  refine ⟨by kernel_rfl, fun j t ht => ?_⟩
  rw [Tryz.params3] at ht
  have hall : ([24, 9].all fun u => !Tryz.prog.wantsStandIn u) = true := by kernel_rfl
  have hm : t ∈ [24, 9] := by simpa using Array.mem_of_getElem? ht
  exact (show Tryz.prog.wantsStandIn t = false by simpa using List.all_eq_true.1 hall t hm)
/-- the tied card -/
theorem card : Rows.RouteBackCardSaid :=
  Claim7.holds_tied_plain_at .later [] _ _ _ _ said (fun _ h => by cases h) (by kernel_rfl) (fun _ h => by cases h) routeBack_row_tie rfl ⟨rfl, rfl⟩ (by kernel_rfl) rfl plain (by kernel_rfl)
end Go.Proofs.YtpfijaojgeceeaaGreatDoor.routeBack
namespace Go.Proofs.YtpfijaojgeceeaaGreatDoor
theorem routeBack_holds : Rows.RouteBackCardSaid := routeBack.card
#print axioms routeBack_holds
end Go.Proofs.YtpfijaojgeceeaaGreatDoor
