/- What a request asks: the program's Parse. What a target asks: the document's. What a target of four pieces asks: the document's. What a target of three pieces asks: the document's. That anything is asked at all. What a request asks, whether two asks are the same: the document's. -/
import Derived.Test.YtpfijaojgeceeaaDoorAuaf
import Derived.Test.YtpfijaojgeceeaaDoorReqV
import Derived.Test.YtpfijaojgeceeaaDoorAuae
import Derived.Test.YtpfijaojgeceeaaDoorRfNum
import Derived.Test.YtpfijaojgeceeaaDoorRfSame
namespace Go.Proofs.YtpfijaojgeceeaaDoor
open Go.RowKit
set_option linter.unusedVariables false

set_option maxRecDepth 100000 in
theorem rtb_info : (Tryd.prog.info? 49).map (·.size) = some 40 := by kernel_rfl
set_option maxRecDepth 100000 in
theorem idx_rt (k : Nat) (hk : k < 10) (w : World) : (Instr.index 49 (.agg rtC.toArray) (.int .i64 (k : Int))).run Tryd.prog w = .ok (rtV (rtL.getD k rt0)) w := by
  match k, hk with
  | 0, _ | 1, _ | 2, _ | 3, _ | 4, _ | 5, _ | 6, _ | 7, _ | 8, _ | 9, _ =>
    simp only [Instr.index, asIntOf, go_sem, part]
    simp
    rfl
set_option maxRecDepth 100000 in
theorem rt_drop (k : Nat) (hk : k < 10) : rtL.drop k = rtL.getD k rt0 :: rtL.drop (k + 1) := by
  match k, hk with
  | 0, _ | 1, _ | 2, _ | 3, _ | 4, _ | 5, _ | 6, _ | 7, _ | 8, _ | 9, _ => rfl
set_option maxRecDepth 100000 in
theorem rt_small (k : Nat) (hk : k < 10) : (rtL.getD k rt0).f.size ≤ 20 ∧ (ptsR (rtL.getD k rt0)).length ≤ 4 := by
  match k, hk with
  | 0, _ | 1, _ | 2, _ | 3, _ | 4, _ | 5, _ | 6, _ | 7, _ | 8, _ | 9, _ => exact ⟨by decide +kernel, by decide +kernel⟩
/-- what is answered -/
def ParP (T : As × Int) (w : World) (e : Ending) (w' : World) : Prop := ∃ ab cap, e = .returned (.tuple #[.agg (askV T.1 ab T.1.b.length cap), .int .i64 T.2]) ∧ w'.ownsRow w.heap.size 5 1 (.slice ab T.1.b.length cap) T.1.b.length (bv T.1.b) ∧ Byt T.1.b ∧ Below w.heap.size w w'
set_option maxRecDepth 100000 in
theorem parp_no {T : As × Int} {c : Int} {w w' : World} {e : Ending} (hT : T = (as0, c)) (he : e = .returned (.tuple #[.agg (askV as0 none 0 0), .int .i64 c])) (hb : Below w.heap.size w w') : ParP T w e w' := by
  subst hT
  exact ⟨none, 0, he, World.ownsRow_nil _ _ _ _, Byt.nil, hb⟩
set_option maxRecDepth 100000 in
/-- the answer's cases -/
theorem rtp_none {x : WX} (h : rtFind rtL (fL 47 x.t 4) = none) : rtPar x = (as0, 404) := by unfold rtPar; rw [h]
set_option maxRecDepth 100000 in
theorem rtp_405 {x : WX} {r : Rt} {a : As} (h : rtFind rtL (fL 47 x.t 4) = some (r, a)) (hm : x.m ≠ r.m) : rtPar x = (as0, 405) := by unfold rtPar; rw [h]; exact if_neg hm
set_option maxRecDepth 100000 in
theorem rtp_body {x : WX} {r : Rt} {a : As} (h : rtFind rtL (fL 47 x.t 4) = some (r, a)) (hm : x.m = r.m) (hh : r.h = true) : rtPar x = (⟨a.k, a.nm, a.sp, x.b, a.A, a.B⟩, 200) := by unfold rtPar; rw [h]; show (if x.m = r.m then _ else _) = _; rw [if_pos hm, if_pos hh]
set_option maxRecDepth 100000 in
theorem rtp_bare {x : WX} {r : Rt} {a : As} (h : rtFind rtL (fL 47 x.t 4) = some (r, a)) (hm : x.m = r.m) (hh : r.h = false) : rtPar x = (a, 200) := by unfold rtPar; rw [h]; show (if x.m = r.m then _ else _) = _; rw [if_pos hm, if_neg (by rw [hh]; decide)]
set_option maxRecDepth 100000 in
/-- pieces are no longer than what they are pieces of -/
theorem pcs_small (c : UInt8) (s : ByteArray) : ∀ q ∈ pcs c s, q.size ≤ s.size := by
  have key : ∀ l : List UInt8, ∀ p ∈ splitL c l, p.length ≤ l.length := by
    intro l
    induction l with
    | nil => intro p hp; simp [splitL] at hp; subst hp; exact Nat.le_refl _
    | cons b t ih =>
      intro p hp
      unfold splitL at hp
      split at hp
      · rcases List.mem_cons.1 hp with rfl | h
        · exact Nat.zero_le _
        · exact Nat.le_trans (ih p h) (Nat.le_succ _)
      · cases e : splitL c t with
        | nil => exact absurd e (splitL_ne c t)
        | cons q qs =>
          rw [e] at hp ih
          rcases List.mem_cons.1 hp with rfl | h
          · have := ih q List.mem_cons_self; simp; omega
          · exact Nat.le_trans (ih p (List.mem_cons_of_mem _ h)) (Nat.le_succ _)
  intro q hq
  unfold pcs at hq
  obtain ⟨p, hp, rfl⟩ := List.mem_map.1 hq
  rw [mkB_size, Lib.size_eq]
  exact key _ p hp
set_option maxRecDepth 100000 in
theorem fL_small (c : UInt8) (s : ByteArray) (m : Int) : ∀ q ∈ fL c s m, q.size ≤ s.size := by
  unfold fL
  split
  · exact pcs_small c s
  · intro q hq; cases hq
set_option maxRecDepth 100000 in
set_option maxHeartbeats 8000000 in
set_option maxRecDepth 100000 in
theorem parse_rt (x : WX) (xa : Option Addr) (xn xc : Nat) (w : World) (hb : Bts w xa xn xc x.b) (ht : x.t.size ≤ 1000000) (hn : xn ≤ 1000000) (hE : RtE w) :
    Calls Tryd.prog 7 #[reqV x (.slice xa xn xc)] w (ParP (rtPar x) w) := by
  obtain ⟨hROW, hRZ, hsz⟩ := two_new18 w (.cells #[.string x.m, .string x.t, .string x.k, .slice xa xn xc] 24) (.cells askZ 27)
  have hB1 : Below w.heap.size w ((w.alloc (.cells #[.string x.m, .string x.t, .string x.k, .slice xa xn xc] 24)).alloc (.cells askZ 27)) := ((Below.refl _ _).alloc (Nat.le_refl _) _).alloc (by simp) _
  have hW1 : w.heap.size + 1 < ((w.alloc (.cells #[.string x.m, .string x.t, .string x.k, .slice xa xn xc] 24)).alloc (.cells askZ 27)).heap.size := (Array.getElem?_eq_some_iff.1 hRZ).1
  have HCF : Bx (∀ W, Calls Tryd.prog 18 #[.string x.t, .int .u8 47, .int .i64 4] W fun e w' => ∃ v o, e = .returned (.tuple #[v, .bool o]) ∧ w'.ownsRow W.heap.size 9 1 v (fL 47 x.t 4).length (svT (fL 47 x.t 4)) ∧ Below W.heap.size W w') := ⟨fun W => by
    refine (fields_any x.t 47 4 W ht).mono ?_
    rintro e w' ⟨v, rfl, ho, hb⟩
    exact ⟨v, _, rfl, ho, hb⟩⟩
  have HQS : Bx (∀ q ∈ fL 47 x.t 4, q.size ≤ 1000000) := ⟨fun q hq => Nat.le_trans (fL_small 47 x.t 4 q hq) ht⟩
  have HFIT : Bx (RtFit (rtFind rtL (fL 47 x.t 4))) := ⟨(rt_fields x.t).2⟩
  have HP0 : Bx (rtFind rtL (fL 47 x.t 4) = none → rtPar x = (as0, 404)) := ⟨fun h => rtp_none h⟩
  have HP1 : Bx (∀ r a, rtFind rtL (fL 47 x.t 4) = some (r, a) → x.m ≠ r.m → rtPar x = (as0, 405)) := ⟨fun r a h => rtp_405 h⟩
  have HP2 : Bx (∀ r a, rtFind rtL (fL 47 x.t 4) = some (r, a) → x.m = r.m → r.h = true → rtPar x = (⟨a.k, a.nm, a.sp, x.b, a.A, a.B⟩, 200)) := ⟨fun r a h => rtp_body h⟩
  have HP3 : Bx (∀ r a, rtFind rtL (fL 47 x.t 4) = some (r, a) → x.m = r.m → r.h = false → rtPar x = (a, 200)) := ⟨fun r a h => rtp_bare h⟩
  have HROW := Bx.mk hROW
  have HRZ := Bx.mk hRZ
  have HB1 := Bx.mk hB1
  have HW1 := Bx.mk hW1
  have HE := Bx.mk hE
  have HXB := Bx.mk hb
  have HXN := Bx.mk hn
  have HZO : Bx (askZ.all (·.oneCell') = true) := ⟨by unfold askZ; simp [Value.oneCell']⟩
  unfold reqV
  generalize rtPar x = T at *
  generalize fL 47 x.t 4 = Q at *
  generalize x.t = xt at *
  generalize x.m = xm at *
  generalize x.k = xk at *
  generalize x.b = xb at *
  clear hROW hRZ hB1 hE hb hsz hW1 hn
  generalize hw1 : (w.alloc (.cells #[.string xm, .string xt, .string xk, .slice xa xn xc] 24)).alloc (.cells askZ 27) = W1 at *
  unfold askZ at hw1
  go_enter Tryd.func7, Tryd.ntmps7
  go_upto_region 1 with fail
  clear hw1
  have k1 : W1.drew.cell? ⟨w.heap.size, 1, none⟩ = some (.string xt) := by rw [cell_of_row W1.drew w.heap.size 1 _ _ (0, 0) HROW.out]; rfl
  have hS0 : W1.drew.cell? ⟨w.heap.size, 1, none⟩ = some (.string xt) ∧ Below W1.heap.size W1 W1.drew := ⟨k1, (Below.refl _ _).drew⟩
  have HC2 : Bx (∀ W, (W.cell? ⟨w.heap.size, 1, none⟩ = some (.string xt) ∧ Below W1.heap.size W1 W) → Calls Tryd.prog 18 #[.string xt, .int .u8 47, .int .i64 4] W fun e w' => ∃ v o, e = .returned (.tuple #[v, .bool o]) ∧ (w'.ownsRow W1.heap.size 9 1 v Q.length (svT Q) ∧ Below W1.heap.size W1 w') ∧ w'.cell? ⟨w.heap.size, 1, none⟩ = some (.string xt)) := ⟨fun W hW => by
    refine (HCF.out W).mono ?_
    rintro e w' ⟨v, o, rfl, ho, hb⟩
    refine ⟨v, o, rfl, ⟨own_lowR ho hW.2.size, bstep hW.2 hb⟩, ?_⟩
    rw [hb.cell (block_lt_of_cell hW.1)]; exact hW.1⟩
  clear k1 HCF
  go_cut [4] from 11 to 16 (fun v wx => wx.ownsRow W1.heap.size 9 1 v Q.length (svT Q) ∧ Below W1.heap.size W1 wx)
  case first =>
    go_region_held3 (fun W => W.cell? ⟨w.heap.size, 1, none⟩ = some (.string xt) ∧ Below W1.heap.size W1 W) (first | (exact hS0) | (exact hb6) | (assumption)) (first
      | (go_at_call 18; refine (HC2.out _ (by assumption)).mono ?_; rintro e6 w6 ⟨v6, o6, rfl, ho6, hc6⟩; have hb6 := And.intro hc6 ho6.2))
    go_wp2_with fail
    go_meet
    exact ho6
  case rest =>
    obtain ⟨ho, hbc⟩ := hcut
    obtain ⟨qa, qc, rfl, hTQ⟩ := Txt.of_owns ho
    have hBc := bstep HB1.out hbc
    have HALL : Bx (∀ W, Below wc.heap.size wc W → RtE W ∧ Txt W qa Q.length Q ∧ W.heap[w.heap.size]? = some (.cells #[.string xm, .string xt, .string xk, .slice xa xn xc] 24 (0, 0)) ∧ W.heap[w.heap.size + 1]? = some (.cells askZ 27 (0, 0)) ∧ Below w.heap.size w W ∧ Bts W xa xn xc xb) := ⟨fun W h => by
      have h1 := hbc.trans (h.mono hbc.size)
      have h2 := bstep hBc h
      exact ⟨HE.out.below h2, hTQ.below h, (h1.block _ (Array.getElem?_eq_some_iff.1 HROW.out).1).trans HROW.out, (h1.block _ (Array.getElem?_eq_some_iff.1 HRZ.out).1).trans HRZ.out, h2, HXB.out.below h2⟩⟩
    have HGT : Bx (w.heap.size + 1 < wc.heap.size) := ⟨Nat.lt_of_lt_of_le HW1.out hbc.size⟩
    have HRT := Bx.mk (HALL.out wc (Below.refl _ _)).1.r
    clear ho hbc hTQ hBc hS0 HC2 HROW HRZ HB1 HW1 HE HXB ht
    go_wp2_with (refine wpList_load_mid rfl 49 (.global 0) rfl 0 0 rfl rtC _ HRT.out.rng Tryd.underlying49 rfl rtb_info ?_)
    have HIX : Bx (∀ (k : Nat), k < 10 → ∀ W : World, (Instr.index 49 (.agg rtC.toArray) (.int .i64 (k : Int))).run Tryd.prog W = .ok (.agg #[.int .i64 (rtL.getD k rt0).k, .string (rtL.getD k rt0).m, .string (rtL.getD k rt0).f, .bool (rtL.getD k rt0).h]) W) := ⟨fun k hk W => idx_rt k hk W⟩
    generalize rtC.toArray = RC at *
    go_loopw [18] (fun i wr => ∃ k : Nat, k ≤ 10 ∧ i = .int .i64 k ∧ Bx (Below wc.heap.size wc wr) ∧ Bx (rtFind (rtL.drop k) Q = rtFind rtL Q)) (fun i _ => 10 - (intOf i).toNat)
    case atStart => exact ⟨0, by omega, rfl, ⟨Below.refl _ _⟩, ⟨rfl⟩⟩
    case round =>
      obtain ⟨k, hk, rfl, HB, HN⟩ := hrel
      by_cases hlt : k < 10
      · have hkI : (k : Int) < 10 := by omega
        have hix := HIX.out k hlt wr
        have hst := rt_drop k hlt
        obtain ⟨hsm, hpl⟩ := rt_small k hlt
        have HST : Bx (rtFind (rtL.getD k rt0 :: rtL.drop (k + 1)) Q = rtFind rtL Q) := ⟨by rw [← hst]; exact HN.out⟩
        obtain ⟨hEr, hQr, _, _, _, _⟩ := HALL.out wr HB.out
        have HRA : Bx (∀ W, RtE W → Txt W qa Q.length Q → Calls Tryd.prog 19 #[.agg #[.int .i64 (rtL.getD k rt0).k, .string (rtL.getD k rt0).m, .string (rtL.getD k rt0).f, .bool (rtL.getD k rt0).h], .slice qa Q.length qc] W fun e w' => RdRP (rtL.getD k rt0) Q e ∧ Below W.heap.size W w') := ⟨fun W h1 h2 => read_any _ qa _ qc Q W hsm hpl h2 HQS.out h1⟩
        generalize hrr : rtL.getD k rt0 = r at *
        have HR3 := Bx.mk (heap_alloc_new wr (.cells #[.int .i64 r.k, .string r.m, .string r.f, .bool r.h] 48))
        have HB3 : Bx (Below wr.heap.size wr (wr.alloc (.cells #[.int .i64 r.k, .string r.m, .string r.f, .bool r.h] 48))) := ⟨(Below.refl _ _).alloc (Nat.le_refl _) _⟩
        have HLT := Bx.mk hlt
        clear hrr hst hsm hpl hEr hQr hlt HIX HN
        go_upto_region 5 with fail
        generalize hw3 : wr.alloc (.cells #[.int .i64 r.k, .string r.m, .string r.f, .bool r.h] 48) = w3 at *
        clear hw3 hix
        have HB3c : Bx (Below wc.heap.size wc w3) := ⟨bstep HB.out HB3.out⟩
        obtain ⟨hE3, hQ3, _, _, _, _⟩ := HALL.out w3 HB3c.out
        have HRC := Bx.mk (HRA.out w3 hE3 hQ3)
        clear hE3 hQ3 HRA
        go_wp2_with (refine wpList_load_row rfl 48 (.tmp 7) rfl wr.heap.size rfl 48 #[.int .i64 r.k, .string r.m, .string r.f, .bool r.h] (0, 0) _ HR3.out Tryd.underlying48 rfl row_info ?_)
        refine HRC.out.mono ?_
        rintro e w4 ⟨hrd, hb4⟩
        have HB4c : Bx (Below wc.heap.size wc w4) := ⟨bstep HB3c.out hb4⟩
        have HR4 : Bx (w4.heap[wr.heap.size]? = some (.cells #[.int .i64 r.k, .string r.m, .string r.f, .bool r.h] 48 (0, 0))) := ⟨(hb4.block _ (Array.getElem?_eq_some_iff.1 HR3.out).1).trans HR3.out⟩
        unfold RdRP at hrd
        clear HRC HR3 HB3 HB3c hb4
        rcases hrow : rowRd r Q with _ | a
        · rw [hrow] at hrd
          have HNX : Bx (rtFind (rtL.drop (k + 1)) Q = rtFind rtL Q) := ⟨by rw [← HST.out, find_skip hrow]⟩
          simp only [Option.getD_none, Option.isSome_none] at hrd
          subst hrd
          have HB5 : Bx (Below wc.heap.size wc (w4.alloc (.cells (askV as0 none 0 0) 27))) := ⟨HB4c.out.alloc HB4c.out.size _⟩
          unfold askV as0 at HB5
          clear hrow HST HR4
          go_wp2_with fail
          go_roundw
          case rel => exact ⟨k + 1, by have := HLT.out; omega, by go_num, HB5, HNX⟩
          case measure => have := HLT.out; simp [intOf]; omega
        · rw [hrow] at hrd
          have HF : Bx (rtFind rtL Q = some (r, a)) := ⟨by rw [← HST.out, find_here hrow]⟩
          simp only [Option.getD_some, Option.isSome_some] at hrd
          subst hrd
          have HAB : Bx (a.b = []) := ⟨(HFIT.out r a HF.out).2.2⟩
          have HA5 := Bx.mk (heap_alloc_new w4 (.cells (askV a none 0 0) 27))
          have HB5 : Bx (Below wc.heap.size wc (w4.alloc (.cells (askV a none 0 0) 27))) := ⟨HB4c.out.alloc HB4c.out.size _⟩
          have HB45 : Bx (Below w4.heap.size w4 (w4.alloc (.cells (askV a none 0 0) 27))) := ⟨(Below.refl _ _).alloc (Nat.le_refl _) _⟩
          have HG4 : Bx (wr.heap.size < w4.heap.size) := ⟨(Array.getElem?_eq_some_iff.1 HR4.out).1⟩
          have hZ5 : w4.heap.size < (w4.alloc (.cells (askV a none 0 0) 27)).heap.size := by simp
          have HZ5 := Bx.mk hZ5
          have HGC : Bx (wc.heap.size ≤ w4.heap.size) := ⟨HB4c.out.size⟩
          clear hrow HST hZ5 HLT hkI hk
          unfold askV at HA5 HB5 HB45 HZ5
          go_upto_region 6 with fail
          generalize hw5 : w4.alloc (.cells #[.int .i64 a.k, .string a.nm, .string a.sp, .slice none 0 0, .int .i64 a.A, .int .i64 a.B] 27) = w5 at *
          clear hw5
          obtain ⟨_, _, hX5, hZ5, hBw5, hXb5⟩ := HALL.out w5 HB5.out
          have hR5 : w5.heap[wr.heap.size]? = some (.cells #[.int .i64 r.k, .string r.m, .string r.f, .bool r.h] 48 (0, 0)) := (HB45.out.block _ (Array.getElem?_eq_some_iff.1 HR4.out).1).trans HR4.out
          have c0 : w5.cell? ⟨w.heap.size, 0, none⟩ = some (.string xm) := by rw [cell_of_row w5 _ 0 _ _ (0, 0) hX5]; rfl
          have c1 : w5.cell? ⟨wr.heap.size, 1, none⟩ = some (.string r.m) := by rw [cell_of_row w5 _ 1 _ _ (0, 0) hR5]; rfl
          have hq := str_beq xm r.m
          have hne : (xm.toList != r.m.toList) = !decide (xm = r.m) := by rw [bne, hq]
          by_cases hm : xm = r.m
          · rw [decide_eq_true hm] at hq hne
            cases hh : r.h with
            | true =>
              have HPT : Bx (T = (⟨a.k, a.nm, a.sp, xb, a.A, a.B⟩, 200)) := ⟨HP2.out r a HF.out hm hh⟩
              have c3 : w5.cell? ⟨wr.heap.size, 3, none⟩ = some (.bool true) := by rw [cell_of_row w5 _ 3 _ _ (0, 0) hR5, hh]; rfl
              have cB : w5.cell? ⟨w.heap.size, 3, none⟩ = some (.slice xa xn xc) := by rw [cell_of_row w5 _ 3 _ _ (0, 0) hX5]; rfl
              have HXB5 := Bx.mk hXb5
              have HZR := Bx.mk hZ5
              have HBW := Bx.mk hBw5
              clear hm hh hX5 hR5 hZ5 hBw5 hXb5 HF HP1 HP2 HP3 HR4 HFIT
              generalize r.m = rm at *
              go_wp2_with fail
              refine (clone_any xa xn xc xb w5 HXB5.out (by have := HXN.out; omega)).mono ?_
              rintro e w6 ⟨v6, rfl, ho6, hb6⟩
              have hlx : xn = xb.length := HXB5.out.len_eq.symm
              obtain ⟨vb, vc, hv6, _⟩ := Bts.of_owns ho6 HXB5.out.byt
              subst hv6
              have hA6 : w6.heap[w4.heap.size]? = some (.cells #[.int .i64 a.k, .string a.nm, .string a.sp, .slice none 0 0, .int .i64 a.A, .int .i64 a.B] 27 (0, 0)) := (hb6.block _ HZ5.out).trans HA5.out
              have hZ6 : w6.heap[w.heap.size + 1]? = some (.cells askZ 27 (0, 0)) := (hb6.block _ (Array.getElem?_eq_some_iff.1 HZR.out).1).trans HZR.out
              have d3 : w6.cell? ⟨w4.heap.size, 3, none⟩ = some (.slice none 0 0) := by rw [cell_of_row w6 _ 3 _ _ (0, 0) hA6]; rfl
              have f3 : w6.frozen? ⟨w4.heap.size, 3, none⟩ = false := frozen_of_row _ _ 3 _ _ hA6
              have hA7 : (w6.setCell ⟨w4.heap.size, 3, none⟩ (.slice vb xn vc)).heap[w4.heap.size]? = some (.cells (askV a vb xn vc) 27 (0, 0)) := heap_setCell_same w6 _ 3 _ _ _ hA6
              have hZ7 : (w6.setCell ⟨w4.heap.size, 3, none⟩ (.slice vb xn vc)).heap[w.heap.size + 1]? = some (.cells askZ 27 (0, 0)) := (setCells_other (vs := [.slice vb xn vc]) (o := 3) (by have := HGC.out; have := HGT.out; omega)).trans hZ6
              have hB7 : Below w.heap.size w (w6.setCell ⟨w4.heap.size, 3, none⟩ (.slice vb xn vc)) := below_setCells (vs := [.slice vb xn vc]) (o := 3) (bstep HBW.out hb6) _ (by have := HGC.out; have := HGT.out; omega)
              have ho7 : (w6.setCell ⟨w4.heap.size, 3, none⟩ (.slice vb xn vc)).ownsRow w5.heap.size 5 1 (.slice vb xn vc) xn (bv xb) := owns_setCells (vs := [.slice vb xn vc]) (o := 3) ho6 (fun q hq => by have := (ho6.lt q hq).1; have := HZ5.out; omega)
              have HO8 : Bx (((w6.setCell ⟨w4.heap.size, 3, none⟩ (.slice vb xn vc)).setCells (w.heap.size + 1) 0 (askV a vb xn vc).toList).ownsRow w.heap.size 5 1 (.slice vb xn vc) xn (bv xb)) := ⟨own_lowR (owns_setCells ho7 (fun q hq => by have := (ho7.lt q hq).1; have := HBW.out.size; have := HGC.out; have := HGT.out; have := HZ5.out; omega)) HBW.out.size⟩
              have HTR : Bx ((w6.setCell ⟨w4.heap.size, 3, none⟩ (.slice vb xn vc)).there (w.heap.size + 1) 0 6) := ⟨there_row hZ7⟩
              have HST : Bx (((w6.setCell ⟨w4.heap.size, 3, none⟩ (.slice vb xn vc)).setCells (w.heap.size + 1) 0 (askV a vb xn vc).toList).heap[w.heap.size + 1]? = some (.cells (askV a vb xn vc) 27 (0, 0))) := ⟨heap_stored hZ7 rfl⟩
              have HFB : Bx (Below w.heap.size w ((w6.setCell ⟨w4.heap.size, 3, none⟩ (.slice vb xn vc)).setCells (w.heap.size + 1) 0 (askV a vb xn vc).toList)) := ⟨below_setCells hB7 _ (by omega) _ 0⟩
              have HA7 := Bx.mk hA7
              have HAL := Bx.mk (askV_all a vb xn vc)
              have HLX := Bx.mk hlx
              clear hlx hA6 hA7 hZ6 hZ7 hB7 ho7 ho6 hb6
              go_wp2_with (first
                | (refine wpList_load_row rfl 27 (.tmp 8) rfl w4.heap.size rfl 27 (askV a vb xn vc) (0, 0) _ HA7.out Tryd.underlying27 rfl ask_info22 ?_)
                | (refine wpList_store_mid rfl 27 (.tmp 2) (.tmp 41) rfl (w.heap.size + 1) 0 (askV a vb xn vc) rfl rfl HTR.out ask_info22 HAL.out ?_))
              refine bodyPost_ret (v := .tuple #[.agg (askV a vb xn vc), .int .i64 200]) (results_ask rfl _ _ (w.heap.size + 1) (askV a vb xn vc) _ rfl rfl HST.out ask_info22) rfl ?_
              rw [HPT.out]
              refine ⟨vb, vc, ?_, ?_, HXB5.out.byt, HFB.out⟩
              · show _ = Ending.returned (.tuple #[.agg #[.int .i64 a.k, .string a.nm, .string a.sp, .slice vb xb.length vc, .int .i64 a.A, .int .i64 a.B], .int .i64 200])
                rw [← HLX.out]
              · show World.ownsRow _ _ _ _ (.slice vb xb.length vc) xb.length (bv xb)
                rw [← HLX.out]; exact HO8.out
            | false =>
              have HPT : Bx (T = (a, 200)) := ⟨HP3.out r a HF.out hm hh⟩
              have c3 : w5.cell? ⟨wr.heap.size, 3, none⟩ = some (.bool false) := by rw [cell_of_row w5 _ 3 _ _ (0, 0) hR5, hh]; rfl
              have HTR : Bx (w5.there (w.heap.size + 1) 0 6) := ⟨there_row hZ5⟩
              have HST : Bx ((w5.setCells (w.heap.size + 1) 0 (askV a none 0 0).toList).heap[w.heap.size + 1]? = some (.cells (askV a none 0 0) 27 (0, 0))) := ⟨heap_stored hZ5 rfl⟩
              have HFB : Bx (Below w.heap.size w (w5.setCells (w.heap.size + 1) 0 (askV a none 0 0).toList)) := ⟨below_setCells hBw5 _ (by omega) _ 0⟩
              have HAL := Bx.mk (askV_all a none 0 0)
              clear hm hh hX5 hR5 hZ5 hBw5 hXb5 HF HP1 HP2 HP3 HR4 HFIT
              generalize r.m = rm at *
              go_wp2_with (first
                | (refine wpList_load_row rfl 27 (.tmp 8) rfl w4.heap.size rfl 27 (askV a none 0 0) (0, 0) _ HA5.out Tryd.underlying27 rfl ask_info22 ?_)
                | (refine wpList_store_mid rfl 27 (.tmp 2) (.tmp 41) rfl (w.heap.size + 1) 0 (askV a none 0 0) rfl rfl HTR.out ask_info22 HAL.out ?_))
              refine bodyPost_ret (v := .tuple #[.agg (askV a none 0 0), .int .i64 200]) (results_ask rfl _ _ (w.heap.size + 1) (askV a none 0 0) _ rfl rfl HST.out ask_info22) rfl ?_
              rw [HPT.out]
              refine ⟨none, 0, ?_, ?_, by show Byt a.b; rw [HAB.out]; exact Byt.nil, HFB.out⟩
              · show _ = Ending.returned (.tuple #[.agg (askV a none a.b.length 0), .int .i64 200])
                rw [HAB.out]; rfl
              · show World.ownsRow _ _ _ _ (.slice none a.b.length 0) a.b.length (bv a.b)
                rw [HAB.out]; exact World.ownsRow_nil _ _ _ _
          · rw [decide_eq_false hm] at hq hne
            have HPA : Bx (T = (as0, 405)) := ⟨HP1.out r a HF.out hm⟩
            have HTR : Bx (w5.there (w.heap.size + 1) 0 6) := ⟨there_row hZ5⟩
            have HST : Bx ((w5.setCells (w.heap.size + 1) 0 askZ.toList).heap[w.heap.size + 1]? = some (.cells (askV as0 none 0 0) 27 (0, 0))) := ⟨heap_stored hZ5 rfl⟩
            have HFB : Bx (Below w.heap.size w (w5.setCells (w.heap.size + 1) 0 askZ.toList)) := ⟨below_setCells hBw5 _ (by omega) _ 0⟩
            clear hm hX5 hR5 hZ5 hBw5 hXb5 HF HP1 HP2 HP3 HR4 HFIT
            generalize r.m = rm at *
            go_wp2_with (refine wpList_store_mid rfl 27 (.tmp 2) (.tmp 34) rfl (w.heap.size + 1) 0 askZ rfl rfl HTR.out ask_info22 HZO.out ?_)
            exact bodyPost_ret (v := .tuple #[.agg (askV as0 none 0 0), .int .i64 405]) (results_ask rfl _ _ (w.heap.size + 1) (askV as0 none 0 0) _ rfl rfl HST.out ask_info22) rfl (parp_no HPA.out rfl HFB.out)
      · have hge : ¬ (k : Int) < 10 := by omega
        obtain ⟨_, _, _, hZr, hBr, _⟩ := HALL.out wr HB.out
        have HPA : Bx (T = (as0, 404)) := ⟨HP0.out (by rw [← HN.out, List.drop_eq_nil_of_le (by show 10 ≤ k; omega)]; rfl)⟩
        have HTR : Bx (wr.there (w.heap.size + 1) 0 6) := ⟨there_row hZr⟩
        have HST : Bx ((wr.setCells (w.heap.size + 1) 0 askZ.toList).heap[w.heap.size + 1]? = some (.cells (askV as0 none 0 0) 27 (0, 0))) := ⟨heap_stored hZr rfl⟩
        have HFB : Bx (Below w.heap.size w (wr.setCells (w.heap.size + 1) 0 askZ.toList)) := ⟨below_setCells hBr _ (by omega) _ 0⟩
        clear hZr hBr HB HN HIX
        go_wp2_with (refine wpList_store_mid rfl 27 (.tmp 2) (.tmp 43) rfl (w.heap.size + 1) 0 askZ rfl rfl HTR.out ask_info22 HZO.out ?_)
        exact bodyPost_ret (v := .tuple #[.agg (askV as0 none 0 0), .int .i64 404]) (results_ask rfl _ _ (w.heap.size + 1) (askV as0 none 0 0) _ rfl rfl HST.out ask_info22) rfl (parp_no HPA.out rfl HFB.out)
end Go.Proofs.YtpfijaojgeceeaaDoor
namespace Go.Proofs.YtpfijaojgeceeaaDoor
open Go.RowKit
set_option linter.unusedVariables false

def tgM : Option As → ByteArray | some a => mthK a.k | none => ⟨#[]⟩
/-- what is answered -/
def RtgP (o : Option As) (w : World) (e : Ending) (w' : World) : Prop := e = .returned (.tuple #[.agg (askV (o.getD as0) none 0 0), .string (tgM o)]) ∧ Below w.heap.size w w'
set_option maxRecDepth 100000 in
theorem rtg_none {o : Option As} {w w' : World} {e : Ending} (h : o = none) (he : e = .returned (.tuple #[.agg (askV as0 none 0 0), .string ⟨#[]⟩])) (hb : Below w.heap.size w w') : RtgP o w e w' := by subst h; exact ⟨he, hb⟩
set_option maxRecDepth 100000 in
theorem rtg_some {o : Option As} {a : As} {M : ByteArray} {w w' : World} {e : Ending} (h : o = some a) (hM : mthK a.k = M) (he : e = .returned (.tuple #[.agg (askV a none 0 0), .string M])) (hb : Below w.heap.size w w') : RtgP o w e w' := by subst h; subst hM; exact ⟨he, hb⟩
set_option maxRecDepth 100000 in
theorem owns_cap {w : World} {B n cap : Nat} {ao : Option Addr} {X : List Value} (h : w.ownsRow B 9 1 (.slice ao n cap) n X) (hn : 0 < n) : ∃ g, ao = some ⟨g, 0, none⟩ ∧ n ≤ cap := by
  rcases h.2 with ⟨_, h0⟩ | ⟨g, cap2, cur, e, hb, hg, hnc, _⟩
  · omega
  · cases e; exact ⟨g, rfl, hnc⟩
set_option maxRecDepth 100000 in
theorem nil_str {e : ByteArray} (h : e = ⟨#[]⟩) : e.toList = [] := by subst h; rw [Lib.toList_data]
set_option maxRecDepth 100000 in
theorem some_str {e : ByteArray} (h : e ≠ ⟨#[]⟩) : ¬ e.toList = [] := by
  intro he
  apply h
  apply ba_ext
  rw [← Lib.toList_data]; exact he
set_option maxRecDepth 100000 in
theorem w_l (x c : ByteArray) (u : List UInt8) (h : c.data.toList = u) : (x.toList == u) = decide (x = c) := lit_str x c u (by rw [Lib.toList_data]; exact h)
set_option maxRecDepth 100000 in
/-- the words that are asked for -/
theorem head_l (x : ByteArray) : (x.toList == [104, 101, 97, 100]) = decide (x = wHead) := w_l x _ _ rfl
set_option maxRecDepth 100000 in
theorem usage_l (x : ByteArray) : (x.toList == [117, 115, 97, 103, 101]) = decide (x = wUsage) := w_l x _ _ rfl
set_option maxRecDepth 100000 in
theorem up_l (x : ByteArray) : (x.toList == [117, 112, 108, 111, 97, 100, 115]) = decide (x = wUp) := w_l x _ _ rfl
set_option maxRecDepth 100000 in
theorem hist_l (x : ByteArray) : (x.toList == [104, 105, 115, 116, 111, 114, 105, 101, 115]) = decide (x = wHist) := w_l x _ _ rfl
set_option maxRecDepth 100000 in
theorem specs_l (x : ByteArray) : (x.toList == [115, 112, 101, 99, 115]) = decide (x = wSpecs) := w_l x _ _ rfl
set_option maxRecDepth 100000 in
theorem jobs_l (x : ByteArray) : (x.toList == [106, 111, 98, 115]) = decide (x = wJobs) := w_l x _ _ rfl
set_option maxRecDepth 100000 in
theorem heads_l (x : ByteArray) : (x.toList == [104, 101, 97, 100, 115]) = decide (x = wHeads) := w_l x _ _ rfl
set_option maxRecDepth 100000 in
theorem ents_l (x : ByteArray) : (x.toList == [101, 110, 116, 114, 105, 101, 115]) = decide (x = wEnts) := w_l x _ _ rfl
set_option maxRecDepth 100000 in
theorem grow_l (x : ByteArray) : (x.toList == [103, 114, 111, 119, 116, 104]) = decide (x = wGrow) := w_l x _ _ rfl
/-- what Fields answers, in a form that serves here -/
def FdC (s : ByteArray) (L : List ByteArray) (ok : Bool) : Prop := ∀ W, Calls Tryd.prog 29 #[.string s, .int .u8 47, .int .i64 4] W fun e w' => ∃ v, e = .returned (.tuple #[v, .bool ok]) ∧ w'.ownsRow W.heap.size 9 1 v L.length (svT L) ∧ Below W.heap.size W w'
set_option maxRecDepth 100000 in
theorem fdc_any (s : ByteArray) (hs : s.size ≤ 1000000) : FdC s (fL 47 s 4) (fOk 47 s 4) := fun W => by
  refine (reffields_any s 47 4 W hs ⟨by decide, by decide⟩).mono ?_
  rintro e w' ⟨v, rfl, ho, hb⟩
  exact ⟨v, rfl, ho, hb⟩
set_option maxRecDepth 100000 in
set_option maxHeartbeats 4000000 in
set_option maxRecDepth 100000 in
/-- too many pieces, or less than two -/
theorem rtg_few (s : ByteArray) (L : List ByteArray) (ok : Bool) (o : Option As) (w : World) (hc : FdC s L ok) (ho : ok = false ∨ L.length < 2) (hn : o = none) :
    Calls Tryd.prog 21 #[.string s] w (RtgP o w) := by
  have HC := Bx.mk hc
  have HO := Bx.mk hn
  unfold FdC at HC
  clear hc hn
  have HZ1 : Bx ((w.alloc (.cells askZ 27)).heap[w.heap.size]? = some (.cells askZ 27 (0, 0))) := ⟨heap_alloc_new w _⟩
  have HB1 : Bx (Below w.heap.size w (w.alloc (.cells askZ 27))) := ⟨(Below.refl _ _).alloc (Nat.le_refl _) _⟩
  generalize hw1 : w.alloc (.cells askZ 27) = w1 at *
  unfold askZ at hw1
  go_enter Tryd.func21, Tryd.ntmps21
  go_wp2_with fail
  clear hw1
  refine (HC.out _).mono ?_
  rintro e1 w2 ⟨v, rfl, ho, hb2⟩
  have HZ2 : Bx (w2.heap[w.heap.size]? = some (.cells askZ 27 (0, 0))) := ⟨(hb2.block _ (Array.getElem?_eq_some_iff.1 HZ1.out).1).trans HZ1.out⟩
  have HB2 : Bx (Below w.heap.size w w2) := ⟨bstep HB1.out hb2⟩
  obtain ⟨ta, tc, rfl⟩ := owns_slice ho
  have HZ : Bx (w2.heap[w.heap.size]? = some (.cells askZ 27 (0, 0))) := HZ2
  have HB : Bx (Below w.heap.size w w2) := HB2
  clear ho hb2 HC HZ1 HB1 HZ2 HB2
  cases ok with
  | false =>
    have HAL : Bx ((#[.int .i64 0, .string ⟨#[]⟩, .string ⟨#[]⟩, .slice none 0 0, .int .i64 0, .int .i64 0] : Array Value).all (·.oneCell') = true) := ⟨by simp [Value.oneCell']⟩
    have HTR : Bx (w2.there w.heap.size 0 6) := ⟨there_row HZ.out⟩
    have HST : Bx ((w2.setCells w.heap.size 0 #[.int .i64 0, .string ⟨#[]⟩, .string ⟨#[]⟩, .slice none 0 0, .int .i64 0, .int .i64 0].toList).heap[w.heap.size]? = some (.cells #[.int .i64 0, .string ⟨#[]⟩, .string ⟨#[]⟩, .slice none 0 0, .int .i64 0, .int .i64 0] 27 (0, 0))) := ⟨heap_stored HZ.out rfl⟩
    have HFB : Bx (Below w.heap.size w (w2.setCells w.heap.size 0 #[.int .i64 0, .string ⟨#[]⟩, .string ⟨#[]⟩, .slice none 0 0, .int .i64 0, .int .i64 0].toList)) := ⟨below_setCells HB.out _ (Nat.le_refl _) _ 0⟩
    go_wp2_with (refine wpList_store_mid rfl 27 (.tmp 2) (.tmp 28) rfl w.heap.size 0 #[.int .i64 0, .string ⟨#[]⟩, .string ⟨#[]⟩, .slice none 0 0, .int .i64 0, .int .i64 0] rfl rfl HTR.out ask_info22 HAL.out ?_)
    refine bodyPost_ret (v := .tuple #[.agg #[.int .i64 0, .string ⟨#[]⟩, .string ⟨#[]⟩, .slice none 0 0, .int .i64 0, .int .i64 0], .string ⟨#[]⟩]) (results_ask rfl _ _ w.heap.size #[.int .i64 0, .string ⟨#[]⟩, .string ⟨#[]⟩, .slice none 0 0, .int .i64 0, .int .i64 0] _ rfl rfl HST.out ask_info22) rfl ?_
    exact rtg_none HO.out rfl HFB.out
  | true =>
    have hl : (L.length : Int) < 2 := by
      rcases ‹true = false ∨ L.length < 2› with h | h
      · cases h
      · omega
    have HAL : Bx ((#[.int .i64 0, .string ⟨#[]⟩, .string ⟨#[]⟩, .slice none 0 0, .int .i64 0, .int .i64 0] : Array Value).all (·.oneCell') = true) := ⟨by simp [Value.oneCell']⟩
    have HTR : Bx (w2.there w.heap.size 0 6) := ⟨there_row HZ.out⟩
    have HST : Bx ((w2.setCells w.heap.size 0 #[.int .i64 0, .string ⟨#[]⟩, .string ⟨#[]⟩, .slice none 0 0, .int .i64 0, .int .i64 0].toList).heap[w.heap.size]? = some (.cells #[.int .i64 0, .string ⟨#[]⟩, .string ⟨#[]⟩, .slice none 0 0, .int .i64 0, .int .i64 0] 27 (0, 0))) := ⟨heap_stored HZ.out rfl⟩
    have HFB : Bx (Below w.heap.size w (w2.setCells w.heap.size 0 #[.int .i64 0, .string ⟨#[]⟩, .string ⟨#[]⟩, .slice none 0 0, .int .i64 0, .int .i64 0].toList)) := ⟨below_setCells HB.out _ (Nat.le_refl _) _ 0⟩
    go_wp2_with (refine wpList_store_mid rfl 27 (.tmp 2) (.tmp 28) rfl w.heap.size 0 #[.int .i64 0, .string ⟨#[]⟩, .string ⟨#[]⟩, .slice none 0 0, .int .i64 0, .int .i64 0] rfl rfl HTR.out ask_info22 HAL.out ?_)
    refine bodyPost_ret (v := .tuple #[.agg #[.int .i64 0, .string ⟨#[]⟩, .string ⟨#[]⟩, .slice none 0 0, .int .i64 0, .int .i64 0], .string ⟨#[]⟩]) (results_ask rfl _ _ w.heap.size #[.int .i64 0, .string ⟨#[]⟩, .string ⟨#[]⟩, .slice none 0 0, .int .i64 0, .int .i64 0] _ rfl rfl HST.out ask_info22) rfl ?_
    exact rtg_none HO.out rfl HFB.out
set_option maxRecDepth 100000 in
set_option maxHeartbeats 4000000 in
set_option maxRecDepth 100000 in
/-- something stands ahead of the first slash -/
theorem rtg_head (s : ByteArray) (L : List ByteArray) (o : Option As) (w : World) (hc : FdC s L true) (hl : 2 ≤ L.length) (he : L.getD 0 ⟨#[]⟩ ≠ ⟨#[]⟩) (hn : o = none) :
    Calls Tryd.prog 21 #[.string s] w (RtgP o w) := by
  have HC := Bx.mk hc
  have HO := Bx.mk hn
  unfold FdC at HC
  clear hc hn
  have HZ1 : Bx ((w.alloc (.cells askZ 27)).heap[w.heap.size]? = some (.cells askZ 27 (0, 0))) := ⟨heap_alloc_new w _⟩
  have HB1 : Bx (Below w.heap.size w (w.alloc (.cells askZ 27))) := ⟨(Below.refl _ _).alloc (Nat.le_refl _) _⟩
  generalize hw1 : w.alloc (.cells askZ 27) = w1 at *
  unfold askZ at hw1
  go_enter Tryd.func21, Tryd.ntmps21
  go_wp2_with fail
  clear hw1
  refine (HC.out _).mono ?_
  rintro e1 w2 ⟨v, rfl, ho, hb2⟩
  have HZ2 : Bx (w2.heap[w.heap.size]? = some (.cells askZ 27 (0, 0))) := ⟨(hb2.block _ (Array.getElem?_eq_some_iff.1 HZ1.out).1).trans HZ1.out⟩
  have HB2 : Bx (Below w.heap.size w w2) := ⟨bstep HB1.out hb2⟩
  obtain ⟨ta, tc, rfl, hT⟩ := Txt.of_owns ho
  obtain ⟨b, rfl, _, hc⟩ := hT.spot (by omega)
  have c0 := hc 0 (by omega)
  have he1 := some_str he
  generalize L.getD 0 ⟨#[]⟩ = e at *
  have he2 : (e.toList == []) = false := by simpa using he1
  have he3 : (e.toList != []) = true := by rw [bne, he2]; rfl
  have he4 : e.toList.isEmpty = false := by simpa using he1
  have hl2 : ¬ (L.length : Int) < 2 := by omega
  have hl3 : (0 : Int) < (L.length : Int) := by omega
  have HZ : Bx (w2.heap[w.heap.size]? = some (.cells askZ 27 (0, 0))) := HZ2
  have HB : Bx (Below w.heap.size w w2) := HB2
  clear ho hb2 HC HZ1 HB1 HZ2 HB2 hc hT he
  have HAL : Bx ((#[.int .i64 0, .string ⟨#[]⟩, .string ⟨#[]⟩, .slice none 0 0, .int .i64 0, .int .i64 0] : Array Value).all (·.oneCell') = true) := ⟨by simp [Value.oneCell']⟩
  have HTR : Bx (w2.there w.heap.size 0 6) := ⟨there_row HZ.out⟩
  have HST : Bx ((w2.setCells w.heap.size 0 #[.int .i64 0, .string ⟨#[]⟩, .string ⟨#[]⟩, .slice none 0 0, .int .i64 0, .int .i64 0].toList).heap[w.heap.size]? = some (.cells #[.int .i64 0, .string ⟨#[]⟩, .string ⟨#[]⟩, .slice none 0 0, .int .i64 0, .int .i64 0] 27 (0, 0))) := ⟨heap_stored HZ.out rfl⟩
  have HFB : Bx (Below w.heap.size w (w2.setCells w.heap.size 0 #[.int .i64 0, .string ⟨#[]⟩, .string ⟨#[]⟩, .slice none 0 0, .int .i64 0, .int .i64 0].toList)) := ⟨below_setCells HB.out _ (Nat.le_refl _) _ 0⟩
  go_wp2_with (refine wpList_store_mid rfl 27 (.tmp 2) (.tmp 28) rfl w.heap.size 0 #[.int .i64 0, .string ⟨#[]⟩, .string ⟨#[]⟩, .slice none 0 0, .int .i64 0, .int .i64 0] rfl rfl HTR.out ask_info22 HAL.out ?_)
  refine bodyPost_ret (v := .tuple #[.agg #[.int .i64 0, .string ⟨#[]⟩, .string ⟨#[]⟩, .slice none 0 0, .int .i64 0, .int .i64 0], .string ⟨#[]⟩]) (results_ask rfl _ _ w.heap.size #[.int .i64 0, .string ⟨#[]⟩, .string ⟨#[]⟩, .slice none 0 0, .int .i64 0, .int .i64 0] _ rfl rfl HST.out ask_info22) rfl ?_
  exact rtg_none HO.out rfl HFB.out
set_option maxRecDepth 100000 in
set_option maxHeartbeats 4000000 in
set_option maxRecDepth 100000 in
theorem rtg_two (s e x : ByteArray) (w : World) (hC : FdC s [e, x] true) (he0 : e = ⟨#[]⟩) :
    Calls Tryd.prog 21 #[.string s] w (RtgP (tg0 x) w) := by
  have he := nil_str he0
  have HC := Bx.mk hC
  unfold FdC at HC
  have q1 := head_l x
  have q2 := usage_l x
  clear hC he0
  have HZ1 : Bx ((w.alloc (.cells askZ 27)).heap[w.heap.size]? = some (.cells askZ 27 (0, 0))) := ⟨heap_alloc_new w _⟩
  have HB1 : Bx (Below w.heap.size w (w.alloc (.cells askZ 27))) := ⟨(Below.refl _ _).alloc (Nat.le_refl _) _⟩
  generalize hw1 : w.alloc (.cells askZ 27) = w1 at *
  unfold askZ at hw1
  go_enter Tryd.func21, Tryd.ntmps21
  go_wp2_with fail
  clear hw1
  refine (HC.out _).mono ?_
  rintro e1 w2 ⟨v, rfl, ho, hb2⟩
  have HZ2 : Bx (w2.heap[w.heap.size]? = some (.cells askZ 27 (0, 0))) := ⟨(hb2.block _ (Array.getElem?_eq_some_iff.1 HZ1.out).1).trans HZ1.out⟩
  have HB2 : Bx (Below w.heap.size w w2) := ⟨bstep HB1.out hb2⟩
  obtain ⟨ta, tc, rfl, hT⟩ := Txt.of_owns ho
  obtain ⟨b, hab, hcap⟩ := owns_cap ho (by simp)
  subst hab
  obtain ⟨b', hbb, hbl, hc⟩ := hT.spot (by simp)
  cases hbb
  have hTO := (TxO.of_txt hT).rest 2 (by simp) hcap
  have c0 : w2.cell? ⟨b, 0, none⟩ = some (.string e) := hc 0 (by simp)
  have c1 : w2.cell? ⟨b, 1, none⟩ = some (.string x) := hc 1 (by simp)
  have he2 : (e.toList == []) = true := by simp [he]
  have he3 : (e.toList != []) = false := by rw [bne, he2]; rfl
  have he4 : e.toList.isEmpty = true := by simp [he]
  have hsl := run_sts_l (some ⟨b, 0, none⟩) 2 tc 2 2 rfl (by decide) w2
  have HBL := Bx.mk hbl
  have HNB : Bx (b ≠ w.heap.size) := ⟨by
    intro hh
    have h1 := (ho.lt b rfl).1
    have h2 := (Array.getElem?_eq_some_iff.1 HZ1.out).1
    omega⟩
  generalize slA (some (⟨b, 0, none⟩ : Addr)) 2 tc = sA at *
  have HNM := Bx.mk (rnumbers_any sA 0 (tc - 2) [] w2 hTO (by decide) (by simp))
  have HN0 : Bx (nuV [] = (0, 0, true)) := ⟨by decide +kernel⟩
  clear hTO hT hc ho hb2 HC HZ1 HB1 hbl hcap
  unfold NuP at HNM
  rw [HN0.out] at HNM
  go_wp2_with fail
  refine HNM.out.mono ?_
  rintro e2 w3 ⟨rfl, hb3⟩
  have d1 : w3.cell? ⟨b, 1, none⟩ = some (.string x) := (hb3.cell (p := ⟨b, 1, none⟩) HBL.out).trans c1
  have HZ : Bx (w3.heap[w.heap.size]? = some (.cells askZ 27 (0, 0))) := ⟨(hb3.block _ (Array.getElem?_eq_some_iff.1 HZ2.out).1).trans HZ2.out⟩
  have HB : Bx (Below w.heap.size w w3) := ⟨bstep HB2.out hb3⟩
  clear c0 c1 hsl hb3 HNM HN0 HZ2 HB2 he he2 he3 he4
  by_cases h1 : x = wHead
  · have HO : Bx (tg0 x = some ⟨10, ⟨#[]⟩, ⟨#[]⟩, [], 0, 0⟩) := ⟨by unfold tg0; rw [if_pos h1]⟩
    rw [decide_eq_true h1] at q1
    clear h1
    have HAL : Bx ((#[.int .i64 10, .string ⟨#[]⟩, .string ⟨#[]⟩, .slice none 0 0, .int .i64 0, .int .i64 0] : Array Value).all (·.oneCell') = true) := ⟨by simp [Value.oneCell']⟩
    have HTR : Bx (w3.there w.heap.size 0 6) := ⟨there_row HZ.out⟩
    have HST : Bx ((w3.setCells w.heap.size 0 #[.int .i64 10, .string ⟨#[]⟩, .string ⟨#[]⟩, .slice none 0 0, .int .i64 0, .int .i64 0].toList).heap[w.heap.size]? = some (.cells #[.int .i64 10, .string ⟨#[]⟩, .string ⟨#[]⟩, .slice none 0 0, .int .i64 0, .int .i64 0] 27 (0, 0))) := ⟨heap_stored HZ.out rfl⟩
    have HFB : Bx (Below w.heap.size w (w3.setCells w.heap.size 0 #[.int .i64 10, .string ⟨#[]⟩, .string ⟨#[]⟩, .slice none 0 0, .int .i64 0, .int .i64 0].toList)) := ⟨below_setCells HB.out _ (Nat.le_refl _) _ 0⟩
    go_wp2_with (refine wpList_store_mid rfl 27 (.tmp 2) (.tmp 46) rfl w.heap.size 0 #[.int .i64 10, .string ⟨#[]⟩, .string ⟨#[]⟩, .slice none 0 0, .int .i64 0, .int .i64 0] rfl rfl HTR.out ask_info22 HAL.out ?_)
    refine bodyPost_ret (v := .tuple #[.agg #[.int .i64 10, .string ⟨#[]⟩, .string ⟨#[]⟩, .slice none 0 0, .int .i64 0, .int .i64 0], .string ⟨#[71, 69, 84]⟩]) (results_ask rfl _ _ w.heap.size #[.int .i64 10, .string ⟨#[]⟩, .string ⟨#[]⟩, .slice none 0 0, .int .i64 0, .int .i64 0] _ rfl rfl HST.out ask_info22) rfl ?_
    exact rtg_some HO.out rfl rfl HFB.out
  · rw [decide_eq_false h1] at q1
    by_cases h2 : x = wUsage
    · have HO : Bx (tg0 x = some ⟨9, ⟨#[]⟩, ⟨#[]⟩, [], 0, 0⟩) := ⟨by unfold tg0; rw [if_neg h1, if_pos h2]⟩
      rw [decide_eq_true h2] at q2
      clear h1 h2
      have HAL : Bx ((#[.int .i64 9, .string ⟨#[]⟩, .string ⟨#[]⟩, .slice none 0 0, .int .i64 0, .int .i64 0] : Array Value).all (·.oneCell') = true) := ⟨by simp [Value.oneCell']⟩
      have HTR : Bx (w3.there w.heap.size 0 6) := ⟨there_row HZ.out⟩
      have HST : Bx ((w3.setCells w.heap.size 0 #[.int .i64 9, .string ⟨#[]⟩, .string ⟨#[]⟩, .slice none 0 0, .int .i64 0, .int .i64 0].toList).heap[w.heap.size]? = some (.cells #[.int .i64 9, .string ⟨#[]⟩, .string ⟨#[]⟩, .slice none 0 0, .int .i64 0, .int .i64 0] 27 (0, 0))) := ⟨heap_stored HZ.out rfl⟩
      have HFB : Bx (Below w.heap.size w (w3.setCells w.heap.size 0 #[.int .i64 9, .string ⟨#[]⟩, .string ⟨#[]⟩, .slice none 0 0, .int .i64 0, .int .i64 0].toList)) := ⟨below_setCells HB.out _ (Nat.le_refl _) _ 0⟩
      go_wp2_with (refine wpList_store_mid rfl 27 (.tmp 2) (.tmp 56) rfl w.heap.size 0 #[.int .i64 9, .string ⟨#[]⟩, .string ⟨#[]⟩, .slice none 0 0, .int .i64 0, .int .i64 0] rfl rfl HTR.out ask_info22 HAL.out ?_)
      refine bodyPost_ret (v := .tuple #[.agg #[.int .i64 9, .string ⟨#[]⟩, .string ⟨#[]⟩, .slice none 0 0, .int .i64 0, .int .i64 0], .string ⟨#[71, 69, 84]⟩]) (results_ask rfl _ _ w.heap.size #[.int .i64 9, .string ⟨#[]⟩, .string ⟨#[]⟩, .slice none 0 0, .int .i64 0, .int .i64 0] _ rfl rfl HST.out ask_info22) rfl ?_
      exact rtg_some HO.out rfl rfl HFB.out
    · rw [decide_eq_false h2] at q2
      have HO : Bx (tg0 x = none) := ⟨by unfold tg0; rw [if_neg h1, if_neg h2]⟩
      clear h1 h2
      have HAL : Bx ((#[.int .i64 0, .string ⟨#[]⟩, .string ⟨#[]⟩, .slice none 0 0, .int .i64 0, .int .i64 0] : Array Value).all (·.oneCell') = true) := ⟨by simp [Value.oneCell']⟩
      have HTR : Bx (w3.there w.heap.size 0 6) := ⟨there_row HZ.out⟩
      have HST : Bx ((w3.setCells w.heap.size 0 #[.int .i64 0, .string ⟨#[]⟩, .string ⟨#[]⟩, .slice none 0 0, .int .i64 0, .int .i64 0].toList).heap[w.heap.size]? = some (.cells #[.int .i64 0, .string ⟨#[]⟩, .string ⟨#[]⟩, .slice none 0 0, .int .i64 0, .int .i64 0] 27 (0, 0))) := ⟨heap_stored HZ.out rfl⟩
      have HFB : Bx (Below w.heap.size w (w3.setCells w.heap.size 0 #[.int .i64 0, .string ⟨#[]⟩, .string ⟨#[]⟩, .slice none 0 0, .int .i64 0, .int .i64 0].toList)) := ⟨below_setCells HB.out _ (Nat.le_refl _) _ 0⟩
      go_wp2_with (refine wpList_store_mid rfl 27 (.tmp 2) (.tmp 141) rfl w.heap.size 0 #[.int .i64 0, .string ⟨#[]⟩, .string ⟨#[]⟩, .slice none 0 0, .int .i64 0, .int .i64 0] rfl rfl HTR.out ask_info22 HAL.out ?_)
      refine bodyPost_ret (v := .tuple #[.agg #[.int .i64 0, .string ⟨#[]⟩, .string ⟨#[]⟩, .slice none 0 0, .int .i64 0, .int .i64 0], .string ⟨#[]⟩]) (results_ask rfl _ _ w.heap.size #[.int .i64 0, .string ⟨#[]⟩, .string ⟨#[]⟩, .slice none 0 0, .int .i64 0, .int .i64 0] _ rfl rfl HST.out ask_info22) rfl ?_
      exact rtg_none HO.out rfl HFB.out
set_option maxRecDepth 100000 in
theorem slA_two {b tc : Nat} (h : 2 < tc) : slA (some (⟨b, 0, none⟩ : Addr)) 2 tc = some ⟨b, 2, none⟩ := by
  unfold slA; rw [if_neg (by omega)]; simp [Addr.add_lit]
set_option maxRecDepth 100000 in
theorem nu_one (p : ByteArray) : nuV [p] = ((rdB p).getD 0, 0, (rdB p).isSome) := by
  unfold nuV
  cases h : rdB p with
  | none => rw [if_neg (by simp [h])]; rfl
  | some n =>
    rw [if_pos (by simp [h])]
    show ((rdB p).getD 0, (rdB ⟨#[]⟩).getD 0, true) = _
    rw [h, rdB_nil]; rfl
set_option maxRecDepth 100000 in
theorem nu_two (p q : ByteArray) : nuV [p, q] = (if (rdB p).isSome = true ∧ (rdB q).isSome = true then ((rdB p).getD 0, (rdB q).getD 0, true) else (0, 0, false)) := by
  unfold nuV
  by_cases h : (rdB p).isSome = true ∧ (rdB q).isSome = true
  · rw [if_pos h, if_pos (by simp [h.1, h.2])]; rfl
  · rw [if_neg h, if_neg (by simpa using h)]
end Go.Proofs.YtpfijaojgeceeaaDoor
namespace Go.Proofs.YtpfijaojgeceeaaDoor
open Go.RowKit
set_option linter.unusedVariables false

set_option maxRecDepth 100000 in
set_option maxHeartbeats 8000000 in
set_option maxRecDepth 100000 in
theorem rtg_four (s e x p q : ByteArray) (w : World) (hC : FdC s [e, x, p, q] true) (he0 : e = ⟨#[]⟩) (hps : ∀ y ∈ [p, q], y.size ≤ 1000000) (o : Option As) (hO : (if nameB p = true ∧ nameB q = true ∧ x = wJobs then some ⟨4, p, q, [], 0, 0⟩ else match rdB p, rdB q with | some n, some m => tg2D x n m | _, _ => none) = o) :
    Calls Tryd.prog 21 #[.string s] w (RtgP o w) := by
  have HOO := Bx.mk hO
  clear hO
  have he := nil_str he0
  have HC := Bx.mk hC
  unfold FdC at HC
  have q4 := jobs_l x
  have q7 := ents_l x
  have q8 := grow_l x
  have HALN : Bx ([p, q].all nameB = (nameB p && nameB q)) := ⟨by simp⟩
  clear hC he0
  have HZ1 : Bx ((w.alloc (.cells askZ 27)).heap[w.heap.size]? = some (.cells askZ 27 (0, 0))) := ⟨heap_alloc_new w _⟩
  have HB1 : Bx (Below w.heap.size w (w.alloc (.cells askZ 27))) := ⟨(Below.refl _ _).alloc (Nat.le_refl _) _⟩
  generalize hw1 : w.alloc (.cells askZ 27) = w1 at *
  unfold askZ at hw1
  go_enter Tryd.func21, Tryd.ntmps21
  go_wp2_with fail
  clear hw1
  refine (HC.out _).mono ?_
  rintro e1 w2 ⟨v, rfl, ho, hb2⟩
  have HZ2 : Bx (w2.heap[w.heap.size]? = some (.cells askZ 27 (0, 0))) := ⟨(hb2.block _ (Array.getElem?_eq_some_iff.1 HZ1.out).1).trans HZ1.out⟩
  have HB2 : Bx (Below w.heap.size w w2) := ⟨bstep HB1.out hb2⟩
  obtain ⟨ta, tc, rfl, hT⟩ := Txt.of_owns ho
  obtain ⟨b, hab, hcap⟩ := owns_cap ho (by simp)
  subst hab
  obtain ⟨b', hbb, hbl, hc⟩ := hT.spot (by simp)
  cases hbb
  have hTO := (TxO.of_txt hT).rest 2 (by simp) hcap
  have c0 : w2.cell? ⟨b, 0, none⟩ = some (.string e) := hc 0 (by simp)
  have c1 : w2.cell? ⟨b, 1, none⟩ = some (.string x) := hc 1 (by simp)
  have he2 : (e.toList == []) = true := by simp [he]
  have he3 : (e.toList != []) = false := by rw [bne, he2]; rfl
  have he4 : e.toList.isEmpty = true := by simp [he]
  have hsl := run_sts_l (some ⟨b, 0, none⟩) 4 tc 2 2 rfl (by decide) w2
  have HBL := Bx.mk hbl
  have HNB : Bx (b ≠ w.heap.size) := ⟨by
    intro hh
    have h1 := (ho.lt b rfl).1
    have h2 := (Array.getElem?_eq_some_iff.1 HZ1.out).1
    omega⟩
  rw [slA_two (Nat.lt_of_lt_of_le (by simp) hcap)] at hsl hTO
  have d2 : w2.cell? ⟨b, 2, none⟩ = some (.string p) := hc 2 (by simp)
  have HNM := Bx.mk (rnumbers_any (some ⟨b, 2, none⟩) 2 (tc - 2) [p, q] w2 hTO (by decide) hps)
  have HNA : Bx (∀ W, Below w2.heap.size w2 W → Calls Tryd.prog 31 #[.slice (some ⟨b, 2, none⟩) 2 (tc - 2)] W fun e w' => e = .returned (.bool ([p, q].all nameB)) ∧ W = w') := ⟨fun W hW => rnames_any _ _ _ _ W (hTO.below hW) (by decide) hps⟩
  clear hTO hT ho hb2 HC HZ1 HB1 hbl hcap
  unfold NuP at HNM
  have d3 : w2.cell? ⟨b, 3, none⟩ = some (.string q) := hc 3 (by simp)
  rw [nu_two] at HNM
  rw [HALN.out] at HNA
  clear hc hps
  have HNU : Bx ((if (rdB p).isSome = true ∧ (rdB q).isSome = true then ((rdB p).getD 0, (rdB q).getD 0, true) else (0, 0, false)) = (0, 0, false) ∨ ∃ n m, rdB p = some n ∧ rdB q = some m ∧ (if (rdB p).isSome = true ∧ (rdB q).isSome = true then ((rdB p).getD 0, (rdB q).getD 0, true) else (0, 0, false)) = (n, m, true)) := ⟨by
    cases hp : rdB p with
    | none => exact .inl (if_neg (by simp))
    | some n =>
      cases hq : rdB q with
      | none => exact .inl (if_neg (by simp))
      | some m => exact .inr ⟨n, m, rfl, rfl, by rw [if_pos ⟨rfl, rfl⟩]; rfl⟩⟩
  have HNN : Bx ((if (rdB p).isSome = true ∧ (rdB q).isSome = true then ((rdB p).getD 0, (rdB q).getD 0, true) else (0, 0, false)) = ((0, 0, false) : Int × Int × Bool) → (match rdB p, rdB q with | some n, some m => tg2D x n m | _, _ => none) = (none : Option As)) := ⟨fun h => by
    cases hp : rdB p with
    | none => rfl
    | some n =>
      cases hq : rdB q with
      | none => rfl
      | some m => rw [hp, hq, if_pos ⟨rfl, rfl⟩] at h; cases h⟩
  generalize (if (rdB p).isSome = true ∧ (rdB q).isSome = true then ((rdB p).getD 0, (rdB q).getD 0, true) else (0, 0, false) : Int × Int × Bool) = NU at *
  obtain ⟨n1, m1, is⟩ := NU
  dsimp only at HNM
  go_wp2_with fail
  refine HNM.out.mono ?_
  rintro e2 w3 ⟨rfl, hb3⟩
  have d1 : w3.cell? ⟨b, 1, none⟩ = some (.string x) := (hb3.cell (p := ⟨b, 1, none⟩) HBL.out).trans c1
  have HP2 : Bx (w3.cell? ⟨b, 2, none⟩ = some (.string p)) := ⟨(hb3.cell (p := ⟨b, 2, none⟩) HBL.out).trans d2⟩
  have HP3 : Bx (w3.cell? ⟨b, 3, none⟩ = some (.string q)) := ⟨(hb3.cell (p := ⟨b, 3, none⟩) HBL.out).trans d3⟩
  have HZ : Bx (w3.heap[w.heap.size]? = some (.cells askZ 27 (0, 0))) := ⟨(hb3.block _ (Array.getElem?_eq_some_iff.1 HZ2.out).1).trans HZ2.out⟩
  have HB : Bx (Below w.heap.size w w3) := ⟨bstep HB2.out hb3⟩
  have HNC := Bx.mk (HNA.out w3 hb3)
  clear c0 c1 d2 d3 hsl hb3 HNM HNA HZ2 HB2 he he2 he3 he4 HALN
  by_cases h4 : nameB p = true ∧ nameB q = true ∧ x = wJobs
  · have HO : Bx (o = some ⟨4, p, q, [], 0, 0⟩) := ⟨by rw [← HOO.out, if_pos h4]⟩
    rw [h4.1, h4.2.1] at HNC
    rw [decide_eq_true h4.2.2] at q4
    have hnc : Calls Tryd.prog 31 #[.slice (some ⟨b, 2, none⟩) 2 (tc - 2)] w3 fun e w' => e = .returned (.bool true) ∧ w3 = w' := HNC.out
    have HNC2 := Bx.mk hnc
    clear h4 HOO HNU HNN HNC hnc
    go_wp2_with fail
    refine HNC2.out.mono ?_
    rintro e3 w4 ⟨rfl, hw⟩
    subst hw
    go_upto_region 25 with fail
    have HNE : Bx (b ≠ w.heap.size) := HNB
    have HAL : Bx ((#[.int .i64 4, .string p, .string q, .slice none 0 0, .int .i64 0, .int .i64 0] : Array Value).all (·.oneCell') = true) := ⟨by simp [Value.oneCell']⟩
    have hk : w3.drew.cell? ⟨b, 2, none⟩ = some (.string p) ∧ w3.drew.cell? ⟨b, 3, none⟩ = some (.string q) := ⟨HP2.out, HP3.out⟩
    have HZK : Bx (w3.drew.heap[w.heap.size]? = some (.cells askZ 27 (0, 0))) := ⟨HZ.out⟩
    have HBK : Bx (Below w.heap.size w w3.drew) := ⟨HB.out.drew⟩
    refine wp_region_held_drew (S := fun W => W.cell? ⟨b, 2, none⟩ = some (.string p) ∧ W.cell? ⟨b, 3, none⟩ = some (.string q)) (by kernel_rfl) hk (fun _ => ?_)
    generalize w3.drew = wk at hk HZK HBK ⊢
    refine wpAnyH_take (i := 0) (oi := { dst := some 115, op := Op.move (Operand.tmp 6), type := 44, pos := "ref.go:69", after := #[], guard := none }) (v := ?vrtg251) rfl (by kernel_rfl) (by kernel_rfl) (by kernel_rfl) (fun _ _ _ h => h) (Or.inl ⟨by rfl, ?yrtg251⟩) hk ?rrtg251
    case yrtg251 => (intro w hSw; (try dsimp only at hSw); go_simp; first | done | with_reducible rfl)
    simp only [Act.put, List.setIfInBounds_toArray, List.set_cons_zero, List.set_cons_succ]
    refine wpAnyH_take (i := 1) (oi := { dst := some 116, op := Op.indexAddr 44 (Operand.tmp 115) (Operand.const (Value.int IntKind.i64 0)), type := 0, pos := "ref.go:69", after := #[{ on := 0, ground := Ground.data }], guard := none }) (v := ?vrtg252) rfl (by kernel_rfl) (by kernel_rfl) (by kernel_rfl) (fun _ _ _ h => h) (Or.inl ⟨by rfl, ?yrtg252⟩) hk ?rrtg252
    case yrtg252 => (intro w hSw; (try dsimp only at hSw); go_simp; first | done | with_reducible rfl)
    simp only [Act.put, List.setIfInBounds_toArray, List.set_cons_zero, List.set_cons_succ]
    refine wpAnyH_take (i := 2) (oi := { dst := some 117, op := Op.load 9 (Operand.tmp 116), type := 9, pos := "ref.go:69", after := #[{ on := 1, ground := Ground.data }], guard := none }) (v := ?vrtg253) rfl (by kernel_rfl) (by kernel_rfl) (by kernel_rfl) (fun _ _ _ h => h) (Or.inl ⟨by rfl, ?yrtg253⟩) hk ?rrtg253
    case yrtg253 => (intro w hSw; have hcw := hSw.1; clear hSw; go_simp; first | done | with_reducible rfl)
    simp only [Act.put, List.setIfInBounds_toArray, List.set_cons_zero, List.set_cons_succ]
    refine wpAnyH_take (i := 3) (oi := { dst := some 118, op := Op.move (Operand.tmp 6), type := 44, pos := "ref.go:69", after := #[], guard := none }) (v := ?vrtg254) rfl (by kernel_rfl) (by kernel_rfl) (by kernel_rfl) (fun _ _ _ h => h) (Or.inl ⟨by rfl, ?yrtg254⟩) hk ?rrtg254
    case yrtg254 => (intro w hSw; (try dsimp only at hSw); go_simp; first | done | with_reducible rfl)
    simp only [Act.put, List.setIfInBounds_toArray, List.set_cons_zero, List.set_cons_succ]
    refine wpAnyH_take (i := 4) (oi := { dst := some 119, op := Op.indexAddr 44 (Operand.tmp 118) (Operand.const (Value.int IntKind.i64 1)), type := 0, pos := "ref.go:69", after := #[{ on := 3, ground := Ground.data }], guard := none }) (v := ?vrtg255) rfl (by kernel_rfl) (by kernel_rfl) (by kernel_rfl) (fun _ _ _ h => h) (Or.inl ⟨by rfl, ?yrtg255⟩) hk ?rrtg255
    case yrtg255 => (intro w hSw; (try dsimp only at hSw); go_simp; first | done | with_reducible rfl)
    simp only [Act.put, List.setIfInBounds_toArray, List.set_cons_zero, List.set_cons_succ]
    refine wpAnyH_take (i := 5) (oi := { dst := some 120, op := Op.load 9 (Operand.tmp 119), type := 9, pos := "ref.go:69", after := #[{ on := 4, ground := Ground.data }], guard := none }) (v := ?vrtg256) rfl (by kernel_rfl) (by kernel_rfl) (by kernel_rfl) (fun _ _ _ h => h) (Or.inl ⟨by rfl, ?yrtg256⟩) hk ?rrtg256
    case yrtg256 => (intro w hSw; have hcw := hSw.2; clear hSw; go_simp; first | done | with_reducible rfl)
    simp only [Act.put, List.setIfInBounds_toArray, List.set_cons_zero, List.set_cons_succ]
    refine wpAnyH_take (i := 6) (oi := { dst := some 121, op := Op.build 27 #[(0, Operand.const (Value.int IntKind.i64 4)), (1, Operand.tmp 117), (2, Operand.tmp 120)], type := 27, pos := "ref.go:69", after := #[{ on := 2, ground := Ground.data }, { on := 5, ground := Ground.data }], guard := none }) (v := ?vrtg257) rfl (by kernel_rfl) (by kernel_rfl) (by kernel_rfl) (fun _ _ _ h => h) (Or.inl ⟨by rfl, ?yrtg257⟩) hk ?rrtg257
    case yrtg257 => (intro w hSw; (try dsimp only at hSw); go_simp; first | done | with_reducible rfl)
    simp only [Act.put, List.setIfInBounds_toArray, List.set_cons_zero, List.set_cons_succ]
    refine wpAnyH_ready (rs := [7]) (by decide +kernel) (by simp) ?_
    refine AllReadyH.cons (o := { dst := none, op := Op.store 27 (Operand.tmp 2) (Operand.tmp 121), type := 0, pos := "ref.go:69", after := #[{ on := 6, ground := Ground.data }, { on := 0, ground := Ground.phase }, { on := 1, ground := Ground.phase }, { on := 2, ground := Ground.phase }, { on := 3, ground := Ground.phase }, { on := 4, ground := Ground.phase }, { on := 5, ground := Ground.phase }, { on := 6, ground := Ground.phase }], guard := none }) rfl (fun K hK => ?_) AllReadyH.nil
    rw [if_pos (by rfl)]
    have HTRK : Bx (wk.there w.heap.size 0 6) := ⟨there_row HZK.out⟩
    refine wp_store_mid 27 (.tmp 2) (.tmp 121) rfl w.heap.size 0 #[.int .i64 4, .string p, .string q, .slice none 0 0, .int .i64 0, .int .i64 0] rfl rfl ?htrtg258 ask_info22 HAL.out ?_
    case htrtg258 => exact HTRK.out
    have HST : Bx ((wk.setCells w.heap.size 0 #[.int .i64 4, .string p, .string q, .slice none 0 0, .int .i64 0, .int .i64 0].toList).heap[w.heap.size]? = some (.cells #[.int .i64 4, .string p, .string q, .slice none 0 0, .int .i64 0, .int .i64 0] 27 (0, 0))) := ⟨heap_stored HZK.out rfl⟩
    have HFB : Bx (Below w.heap.size w (wk.setCells w.heap.size 0 #[.int .i64 4, .string p, .string q, .slice none 0 0, .int .i64 0, .int .i64 0].toList)) := ⟨below_setCells HBK.out _ (Nat.le_refl _) _ 0⟩
    have HKK : Bx ((wk.setCells w.heap.size 0 #[.int .i64 4, .string p, .string q, .slice none 0 0, .int .i64 0, .int .i64 0].toList).cell? ⟨b, 2, none⟩ = some (.string p) ∧ (wk.setCells w.heap.size 0 #[.int .i64 4, .string p, .string q, .slice none 0 0, .int .i64 0, .int .i64 0].toList).cell? ⟨b, 3, none⟩ = some (.string q)) := ⟨(World.cell?_of_block (setCells_other HNE.out _ _)).trans hk.1, (World.cell?_of_block (setCells_other HNE.out _ _)).trans hk.2⟩
    replace hk := HKK.out
    clear HKK HZK HBK HTRK
    generalize wk.setCells w.heap.size 0 #[.int .i64 4, .string p, .string q, .slice none 0 0, .int .i64 0, .int .i64 0].toList = wk at hk HST HFB ⊢
    simp only [Act.put]
    refine hK.out _ _ hk (fun _ => ?_)
    clear hK K
    try simp only [Act.put, List.setIfInBounds_toArray, List.set_cons_zero, List.set_cons_succ]
    refine wpAnyH_take (i := 8) (oi := { dst := some 3, op := Op.assign (Operand.const (Value.string { data := #[80, 79, 83, 84] })), type := 9, pos := "ref.go:69", after := #[{ on := 7, ground := Ground.chain }, { on := 0, ground := Ground.phase }, { on := 1, ground := Ground.phase }, { on := 2, ground := Ground.phase }, { on := 3, ground := Ground.phase }, { on := 4, ground := Ground.phase }, { on := 5, ground := Ground.phase }, { on := 6, ground := Ground.phase }, { on := 7, ground := Ground.phase }], guard := none }) (v := ?vrtg259) rfl (by kernel_rfl) (by kernel_rfl) (by kernel_rfl) (fun _ _ _ h => h) (Or.inl ⟨by rfl, ?yrtg259⟩) hk ?rrtg259
    case yrtg259 => (intro w hSw; (try dsimp only at hSw); go_simp; first | done | with_reducible rfl)
    simp only [Act.put, List.setIfInBounds_toArray, List.set_cons_zero, List.set_cons_succ]
    refine wpAnyH_done (by decide +kernel) ?_ _
    go_wp2_with fail
    refine bodyPost_ret (v := .tuple #[.agg #[.int .i64 4, .string p, .string q, .slice none 0 0, .int .i64 0, .int .i64 0], .string ⟨#[80, 79, 83, 84]⟩]) (results_ask rfl _ _ w.heap.size #[.int .i64 4, .string p, .string q, .slice none 0 0, .int .i64 0, .int .i64 0] _ rfl rfl HST.out ask_info22) rfl ?_
    exact rtg_some HO.out rfl rfl HFB.out
  · have HOE : Bx ((match rdB p, rdB q with | some n, some m => tg2D x n m | _, _ => none) = o) := ⟨by rw [← HOO.out, if_neg h4]⟩
    have hkj : (nameB p && nameB q) = false ∨ ((nameB p && nameB q) = true ∧ x ≠ wJobs) := by
      cases ha : nameB p with
      | false => exact .inl rfl
      | true =>
        cases hb : nameB q with
        | false => exact .inl rfl
        | true => exact .inr ⟨rfl, fun hx => h4 ⟨ha, hb, hx⟩⟩
    clear h4 HOO
    rcases hkj with hk1 | ⟨hk1, hxj⟩
    · rw [hk1] at HNC
      clear hk1
      go_wp2_with fail
      refine HNC.out.mono ?_
      rintro e3 w4 ⟨rfl, hw⟩
      subst hw
      go_upto_region 26 with fail
      rcases HNU.out with hnu | ⟨n, m, hp, hq, hnu⟩
      · have HO : Bx (o = none) := ⟨by rw [← HOE.out]; exact HNN.out hnu⟩
        simp only [Prod.mk.injEq] at hnu
        obtain ⟨rfl, rfl, rfl⟩ := hnu
        have HAL : Bx ((#[.int .i64 0, .string ⟨#[]⟩, .string ⟨#[]⟩, .slice none 0 0, .int .i64 0, .int .i64 0] : Array Value).all (·.oneCell') = true) := ⟨by simp [Value.oneCell']⟩
        have HTR : Bx (w3.there w.heap.size 0 6) := ⟨there_row HZ.out⟩
        have HST : Bx ((w3.setCells w.heap.size 0 #[.int .i64 0, .string ⟨#[]⟩, .string ⟨#[]⟩, .slice none 0 0, .int .i64 0, .int .i64 0].toList).heap[w.heap.size]? = some (.cells #[.int .i64 0, .string ⟨#[]⟩, .string ⟨#[]⟩, .slice none 0 0, .int .i64 0, .int .i64 0] 27 (0, 0))) := ⟨heap_stored HZ.out rfl⟩
        have HFB : Bx (Below w.heap.size w (w3.setCells w.heap.size 0 #[.int .i64 0, .string ⟨#[]⟩, .string ⟨#[]⟩, .slice none 0 0, .int .i64 0, .int .i64 0].toList)) := ⟨below_setCells HB.out _ (Nat.le_refl _) _ 0⟩
        go_wp2_with (refine wpList_store_mid rfl 27 (.tmp 2) (.tmp 141) rfl w.heap.size 0 #[.int .i64 0, .string ⟨#[]⟩, .string ⟨#[]⟩, .slice none 0 0, .int .i64 0, .int .i64 0] rfl rfl HTR.out ask_info22 HAL.out ?_)
        refine bodyPost_ret (v := .tuple #[.agg #[.int .i64 0, .string ⟨#[]⟩, .string ⟨#[]⟩, .slice none 0 0, .int .i64 0, .int .i64 0], .string ⟨#[]⟩]) (results_ask rfl _ _ w.heap.size #[.int .i64 0, .string ⟨#[]⟩, .string ⟨#[]⟩, .slice none 0 0, .int .i64 0, .int .i64 0] _ rfl rfl HST.out ask_info22) rfl ?_
        exact rtg_none HO.out rfl HFB.out
      · have HOD : Bx (tg2D x n m = o) := ⟨by rw [← HOE.out, hp, hq]⟩
        simp only [Prod.mk.injEq] at hnu
        obtain ⟨rfl, rfl, rfl⟩ := hnu
        clear hp hq HNU HNN HOE
        by_cases h7 : x = wEnts
        · have HO : Bx (o = some ⟨7, ⟨#[]⟩, ⟨#[]⟩, [], n1, m1⟩) := ⟨by rw [← HOD.out]; unfold tg2D; rw [if_pos h7]⟩
          rw [decide_eq_true h7] at q7
          clear h7
          have HAL : Bx ((#[.int .i64 7, .string ⟨#[]⟩, .string ⟨#[]⟩, .slice none 0 0, .int .i64 n1, .int .i64 m1] : Array Value).all (·.oneCell') = true) := ⟨by simp [Value.oneCell']⟩
          have HTR : Bx (w3.there w.heap.size 0 6) := ⟨there_row HZ.out⟩
          have HST : Bx ((w3.setCells w.heap.size 0 #[.int .i64 7, .string ⟨#[]⟩, .string ⟨#[]⟩, .slice none 0 0, .int .i64 n1, .int .i64 m1].toList).heap[w.heap.size]? = some (.cells #[.int .i64 7, .string ⟨#[]⟩, .string ⟨#[]⟩, .slice none 0 0, .int .i64 n1, .int .i64 m1] 27 (0, 0))) := ⟨heap_stored HZ.out rfl⟩
          have HFB : Bx (Below w.heap.size w (w3.setCells w.heap.size 0 #[.int .i64 7, .string ⟨#[]⟩, .string ⟨#[]⟩, .slice none 0 0, .int .i64 n1, .int .i64 m1].toList)) := ⟨below_setCells HB.out _ (Nat.le_refl _) _ 0⟩
          go_wp2_with (refine wpList_store_mid rfl 27 (.tmp 2) (.tmp 135) rfl w.heap.size 0 #[.int .i64 7, .string ⟨#[]⟩, .string ⟨#[]⟩, .slice none 0 0, .int .i64 n1, .int .i64 m1] rfl rfl HTR.out ask_info22 HAL.out ?_)
          refine bodyPost_ret (v := .tuple #[.agg #[.int .i64 7, .string ⟨#[]⟩, .string ⟨#[]⟩, .slice none 0 0, .int .i64 n1, .int .i64 m1], .string ⟨#[71, 69, 84]⟩]) (results_ask rfl _ _ w.heap.size #[.int .i64 7, .string ⟨#[]⟩, .string ⟨#[]⟩, .slice none 0 0, .int .i64 n1, .int .i64 m1] _ rfl rfl HST.out ask_info22) rfl ?_
          exact rtg_some HO.out rfl rfl HFB.out
        · rw [decide_eq_false h7] at q7
          by_cases h8 : x = wGrow
          · have HO : Bx (o = some ⟨8, ⟨#[]⟩, ⟨#[]⟩, [], n1, m1⟩) := ⟨by rw [← HOD.out]; unfold tg2D; rw [if_neg h7, if_pos h8]⟩
            rw [decide_eq_true h8] at q8
            clear h7 h8
            have HAL : Bx ((#[.int .i64 8, .string ⟨#[]⟩, .string ⟨#[]⟩, .slice none 0 0, .int .i64 n1, .int .i64 m1] : Array Value).all (·.oneCell') = true) := ⟨by simp [Value.oneCell']⟩
            have HTR : Bx (w3.there w.heap.size 0 6) := ⟨there_row HZ.out⟩
            have HST : Bx ((w3.setCells w.heap.size 0 #[.int .i64 8, .string ⟨#[]⟩, .string ⟨#[]⟩, .slice none 0 0, .int .i64 n1, .int .i64 m1].toList).heap[w.heap.size]? = some (.cells #[.int .i64 8, .string ⟨#[]⟩, .string ⟨#[]⟩, .slice none 0 0, .int .i64 n1, .int .i64 m1] 27 (0, 0))) := ⟨heap_stored HZ.out rfl⟩
            have HFB : Bx (Below w.heap.size w (w3.setCells w.heap.size 0 #[.int .i64 8, .string ⟨#[]⟩, .string ⟨#[]⟩, .slice none 0 0, .int .i64 n1, .int .i64 m1].toList)) := ⟨below_setCells HB.out _ (Nat.le_refl _) _ 0⟩
            go_wp2_with (refine wpList_store_mid rfl 27 (.tmp 2) (.tmp 140) rfl w.heap.size 0 #[.int .i64 8, .string ⟨#[]⟩, .string ⟨#[]⟩, .slice none 0 0, .int .i64 n1, .int .i64 m1] rfl rfl HTR.out ask_info22 HAL.out ?_)
            refine bodyPost_ret (v := .tuple #[.agg #[.int .i64 8, .string ⟨#[]⟩, .string ⟨#[]⟩, .slice none 0 0, .int .i64 n1, .int .i64 m1], .string ⟨#[71, 69, 84]⟩]) (results_ask rfl _ _ w.heap.size #[.int .i64 8, .string ⟨#[]⟩, .string ⟨#[]⟩, .slice none 0 0, .int .i64 n1, .int .i64 m1] _ rfl rfl HST.out ask_info22) rfl ?_
            exact rtg_some HO.out rfl rfl HFB.out
          · rw [decide_eq_false h8] at q8
            have HO : Bx (o = none) := ⟨by rw [← HOD.out]; unfold tg2D; rw [if_neg h7, if_neg h8]⟩
            clear h7 h8
            have HAL : Bx ((#[.int .i64 0, .string ⟨#[]⟩, .string ⟨#[]⟩, .slice none 0 0, .int .i64 0, .int .i64 0] : Array Value).all (·.oneCell') = true) := ⟨by simp [Value.oneCell']⟩
            have HTR : Bx (w3.there w.heap.size 0 6) := ⟨there_row HZ.out⟩
            have HST : Bx ((w3.setCells w.heap.size 0 #[.int .i64 0, .string ⟨#[]⟩, .string ⟨#[]⟩, .slice none 0 0, .int .i64 0, .int .i64 0].toList).heap[w.heap.size]? = some (.cells #[.int .i64 0, .string ⟨#[]⟩, .string ⟨#[]⟩, .slice none 0 0, .int .i64 0, .int .i64 0] 27 (0, 0))) := ⟨heap_stored HZ.out rfl⟩
            have HFB : Bx (Below w.heap.size w (w3.setCells w.heap.size 0 #[.int .i64 0, .string ⟨#[]⟩, .string ⟨#[]⟩, .slice none 0 0, .int .i64 0, .int .i64 0].toList)) := ⟨below_setCells HB.out _ (Nat.le_refl _) _ 0⟩
            go_wp2_with (refine wpList_store_mid rfl 27 (.tmp 2) (.tmp 141) rfl w.heap.size 0 #[.int .i64 0, .string ⟨#[]⟩, .string ⟨#[]⟩, .slice none 0 0, .int .i64 0, .int .i64 0] rfl rfl HTR.out ask_info22 HAL.out ?_)
            refine bodyPost_ret (v := .tuple #[.agg #[.int .i64 0, .string ⟨#[]⟩, .string ⟨#[]⟩, .slice none 0 0, .int .i64 0, .int .i64 0], .string ⟨#[]⟩]) (results_ask rfl _ _ w.heap.size #[.int .i64 0, .string ⟨#[]⟩, .string ⟨#[]⟩, .slice none 0 0, .int .i64 0, .int .i64 0] _ rfl rfl HST.out ask_info22) rfl ?_
            exact rtg_none HO.out rfl HFB.out
    · rw [hk1] at HNC
      rw [decide_eq_false hxj] at q4
      clear hk1 hxj
      go_wp2_with fail
      refine HNC.out.mono ?_
      rintro e3 w4 ⟨rfl, hw⟩
      subst hw
      go_upto_region 26 with fail
      rcases HNU.out with hnu | ⟨n, m, hp, hq, hnu⟩
      · have HO : Bx (o = none) := ⟨by rw [← HOE.out]; exact HNN.out hnu⟩
        simp only [Prod.mk.injEq] at hnu
        obtain ⟨rfl, rfl, rfl⟩ := hnu
        have HAL : Bx ((#[.int .i64 0, .string ⟨#[]⟩, .string ⟨#[]⟩, .slice none 0 0, .int .i64 0, .int .i64 0] : Array Value).all (·.oneCell') = true) := ⟨by simp [Value.oneCell']⟩
        have HTR : Bx (w3.there w.heap.size 0 6) := ⟨there_row HZ.out⟩
        have HST : Bx ((w3.setCells w.heap.size 0 #[.int .i64 0, .string ⟨#[]⟩, .string ⟨#[]⟩, .slice none 0 0, .int .i64 0, .int .i64 0].toList).heap[w.heap.size]? = some (.cells #[.int .i64 0, .string ⟨#[]⟩, .string ⟨#[]⟩, .slice none 0 0, .int .i64 0, .int .i64 0] 27 (0, 0))) := ⟨heap_stored HZ.out rfl⟩
        have HFB : Bx (Below w.heap.size w (w3.setCells w.heap.size 0 #[.int .i64 0, .string ⟨#[]⟩, .string ⟨#[]⟩, .slice none 0 0, .int .i64 0, .int .i64 0].toList)) := ⟨below_setCells HB.out _ (Nat.le_refl _) _ 0⟩
        go_wp2_with (refine wpList_store_mid rfl 27 (.tmp 2) (.tmp 141) rfl w.heap.size 0 #[.int .i64 0, .string ⟨#[]⟩, .string ⟨#[]⟩, .slice none 0 0, .int .i64 0, .int .i64 0] rfl rfl HTR.out ask_info22 HAL.out ?_)
        refine bodyPost_ret (v := .tuple #[.agg #[.int .i64 0, .string ⟨#[]⟩, .string ⟨#[]⟩, .slice none 0 0, .int .i64 0, .int .i64 0], .string ⟨#[]⟩]) (results_ask rfl _ _ w.heap.size #[.int .i64 0, .string ⟨#[]⟩, .string ⟨#[]⟩, .slice none 0 0, .int .i64 0, .int .i64 0] _ rfl rfl HST.out ask_info22) rfl ?_
        exact rtg_none HO.out rfl HFB.out
      · have HOD : Bx (tg2D x n m = o) := ⟨by rw [← HOE.out, hp, hq]⟩
        simp only [Prod.mk.injEq] at hnu
        obtain ⟨rfl, rfl, rfl⟩ := hnu
        clear hp hq HNU HNN HOE
        by_cases h7 : x = wEnts
        · have HO : Bx (o = some ⟨7, ⟨#[]⟩, ⟨#[]⟩, [], n1, m1⟩) := ⟨by rw [← HOD.out]; unfold tg2D; rw [if_pos h7]⟩
          rw [decide_eq_true h7] at q7
          clear h7
          have HAL : Bx ((#[.int .i64 7, .string ⟨#[]⟩, .string ⟨#[]⟩, .slice none 0 0, .int .i64 n1, .int .i64 m1] : Array Value).all (·.oneCell') = true) := ⟨by simp [Value.oneCell']⟩
          have HTR : Bx (w3.there w.heap.size 0 6) := ⟨there_row HZ.out⟩
          have HST : Bx ((w3.setCells w.heap.size 0 #[.int .i64 7, .string ⟨#[]⟩, .string ⟨#[]⟩, .slice none 0 0, .int .i64 n1, .int .i64 m1].toList).heap[w.heap.size]? = some (.cells #[.int .i64 7, .string ⟨#[]⟩, .string ⟨#[]⟩, .slice none 0 0, .int .i64 n1, .int .i64 m1] 27 (0, 0))) := ⟨heap_stored HZ.out rfl⟩
          have HFB : Bx (Below w.heap.size w (w3.setCells w.heap.size 0 #[.int .i64 7, .string ⟨#[]⟩, .string ⟨#[]⟩, .slice none 0 0, .int .i64 n1, .int .i64 m1].toList)) := ⟨below_setCells HB.out _ (Nat.le_refl _) _ 0⟩
          go_wp2_with (refine wpList_store_mid rfl 27 (.tmp 2) (.tmp 135) rfl w.heap.size 0 #[.int .i64 7, .string ⟨#[]⟩, .string ⟨#[]⟩, .slice none 0 0, .int .i64 n1, .int .i64 m1] rfl rfl HTR.out ask_info22 HAL.out ?_)
          refine bodyPost_ret (v := .tuple #[.agg #[.int .i64 7, .string ⟨#[]⟩, .string ⟨#[]⟩, .slice none 0 0, .int .i64 n1, .int .i64 m1], .string ⟨#[71, 69, 84]⟩]) (results_ask rfl _ _ w.heap.size #[.int .i64 7, .string ⟨#[]⟩, .string ⟨#[]⟩, .slice none 0 0, .int .i64 n1, .int .i64 m1] _ rfl rfl HST.out ask_info22) rfl ?_
          exact rtg_some HO.out rfl rfl HFB.out
        · rw [decide_eq_false h7] at q7
          by_cases h8 : x = wGrow
          · have HO : Bx (o = some ⟨8, ⟨#[]⟩, ⟨#[]⟩, [], n1, m1⟩) := ⟨by rw [← HOD.out]; unfold tg2D; rw [if_neg h7, if_pos h8]⟩
            rw [decide_eq_true h8] at q8
            clear h7 h8
            have HAL : Bx ((#[.int .i64 8, .string ⟨#[]⟩, .string ⟨#[]⟩, .slice none 0 0, .int .i64 n1, .int .i64 m1] : Array Value).all (·.oneCell') = true) := ⟨by simp [Value.oneCell']⟩
            have HTR : Bx (w3.there w.heap.size 0 6) := ⟨there_row HZ.out⟩
            have HST : Bx ((w3.setCells w.heap.size 0 #[.int .i64 8, .string ⟨#[]⟩, .string ⟨#[]⟩, .slice none 0 0, .int .i64 n1, .int .i64 m1].toList).heap[w.heap.size]? = some (.cells #[.int .i64 8, .string ⟨#[]⟩, .string ⟨#[]⟩, .slice none 0 0, .int .i64 n1, .int .i64 m1] 27 (0, 0))) := ⟨heap_stored HZ.out rfl⟩
            have HFB : Bx (Below w.heap.size w (w3.setCells w.heap.size 0 #[.int .i64 8, .string ⟨#[]⟩, .string ⟨#[]⟩, .slice none 0 0, .int .i64 n1, .int .i64 m1].toList)) := ⟨below_setCells HB.out _ (Nat.le_refl _) _ 0⟩
            go_wp2_with (refine wpList_store_mid rfl 27 (.tmp 2) (.tmp 140) rfl w.heap.size 0 #[.int .i64 8, .string ⟨#[]⟩, .string ⟨#[]⟩, .slice none 0 0, .int .i64 n1, .int .i64 m1] rfl rfl HTR.out ask_info22 HAL.out ?_)
            refine bodyPost_ret (v := .tuple #[.agg #[.int .i64 8, .string ⟨#[]⟩, .string ⟨#[]⟩, .slice none 0 0, .int .i64 n1, .int .i64 m1], .string ⟨#[71, 69, 84]⟩]) (results_ask rfl _ _ w.heap.size #[.int .i64 8, .string ⟨#[]⟩, .string ⟨#[]⟩, .slice none 0 0, .int .i64 n1, .int .i64 m1] _ rfl rfl HST.out ask_info22) rfl ?_
            exact rtg_some HO.out rfl rfl HFB.out
          · rw [decide_eq_false h8] at q8
            have HO : Bx (o = none) := ⟨by rw [← HOD.out]; unfold tg2D; rw [if_neg h7, if_neg h8]⟩
            clear h7 h8
            have HAL : Bx ((#[.int .i64 0, .string ⟨#[]⟩, .string ⟨#[]⟩, .slice none 0 0, .int .i64 0, .int .i64 0] : Array Value).all (·.oneCell') = true) := ⟨by simp [Value.oneCell']⟩
            have HTR : Bx (w3.there w.heap.size 0 6) := ⟨there_row HZ.out⟩
            have HST : Bx ((w3.setCells w.heap.size 0 #[.int .i64 0, .string ⟨#[]⟩, .string ⟨#[]⟩, .slice none 0 0, .int .i64 0, .int .i64 0].toList).heap[w.heap.size]? = some (.cells #[.int .i64 0, .string ⟨#[]⟩, .string ⟨#[]⟩, .slice none 0 0, .int .i64 0, .int .i64 0] 27 (0, 0))) := ⟨heap_stored HZ.out rfl⟩
            have HFB : Bx (Below w.heap.size w (w3.setCells w.heap.size 0 #[.int .i64 0, .string ⟨#[]⟩, .string ⟨#[]⟩, .slice none 0 0, .int .i64 0, .int .i64 0].toList)) := ⟨below_setCells HB.out _ (Nat.le_refl _) _ 0⟩
            go_wp2_with (refine wpList_store_mid rfl 27 (.tmp 2) (.tmp 141) rfl w.heap.size 0 #[.int .i64 0, .string ⟨#[]⟩, .string ⟨#[]⟩, .slice none 0 0, .int .i64 0, .int .i64 0] rfl rfl HTR.out ask_info22 HAL.out ?_)
            refine bodyPost_ret (v := .tuple #[.agg #[.int .i64 0, .string ⟨#[]⟩, .string ⟨#[]⟩, .slice none 0 0, .int .i64 0, .int .i64 0], .string ⟨#[]⟩]) (results_ask rfl _ _ w.heap.size #[.int .i64 0, .string ⟨#[]⟩, .string ⟨#[]⟩, .slice none 0 0, .int .i64 0, .int .i64 0] _ rfl rfl HST.out ask_info22) rfl ?_
            exact rtg_none HO.out rfl HFB.out
end Go.Proofs.YtpfijaojgeceeaaDoor
namespace Go.Proofs.YtpfijaojgeceeaaDoor
open Go.RowKit
set_option linter.unusedVariables false

set_option maxRecDepth 100000 in
set_option maxHeartbeats 4000000 in
set_option maxRecDepth 100000 in
theorem rtg_three (s e x p : ByteArray) (w : World) (hC : FdC s [e, x, p] true) (he0 : e = ⟨#[]⟩) (hps : ∀ q ∈ [p], q.size ≤ 1000000) (o : Option As) (hO : (if nameB p = true then tg1N x p else match rdB p with | some n => tg1D x n | none => none) = o) :
    Calls Tryd.prog 21 #[.string s] w (RtgP o w) := by
  have HOO := Bx.mk hO
  clear hO
  have he := nil_str he0
  have HC := Bx.mk hC
  unfold FdC at HC
  have q1 := up_l x
  have q2 := hist_l x
  have q3 := specs_l x
  have q4 := jobs_l x
  have q5 := heads_l x
  have HALN : Bx ([p].all nameB = nameB p) := ⟨by simp⟩
  clear hC he0
  have HZ1 : Bx ((w.alloc (.cells askZ 27)).heap[w.heap.size]? = some (.cells askZ 27 (0, 0))) := ⟨heap_alloc_new w _⟩
  have HB1 : Bx (Below w.heap.size w (w.alloc (.cells askZ 27))) := ⟨(Below.refl _ _).alloc (Nat.le_refl _) _⟩
  generalize hw1 : w.alloc (.cells askZ 27) = w1 at *
  unfold askZ at hw1
  go_enter Tryd.func21, Tryd.ntmps21
  go_wp2_with fail
  clear hw1
  refine (HC.out _).mono ?_
  rintro e1 w2 ⟨v, rfl, ho, hb2⟩
  have HZ2 : Bx (w2.heap[w.heap.size]? = some (.cells askZ 27 (0, 0))) := ⟨(hb2.block _ (Array.getElem?_eq_some_iff.1 HZ1.out).1).trans HZ1.out⟩
  have HB2 : Bx (Below w.heap.size w w2) := ⟨bstep HB1.out hb2⟩
  obtain ⟨ta, tc, rfl, hT⟩ := Txt.of_owns ho
  obtain ⟨b, hab, hcap⟩ := owns_cap ho (by simp)
  subst hab
  obtain ⟨b', hbb, hbl, hc⟩ := hT.spot (by simp)
  cases hbb
  have hTO := (TxO.of_txt hT).rest 2 (by simp) hcap
  have c0 : w2.cell? ⟨b, 0, none⟩ = some (.string e) := hc 0 (by simp)
  have c1 : w2.cell? ⟨b, 1, none⟩ = some (.string x) := hc 1 (by simp)
  have he2 : (e.toList == []) = true := by simp [he]
  have he3 : (e.toList != []) = false := by rw [bne, he2]; rfl
  have he4 : e.toList.isEmpty = true := by simp [he]
  have hsl := run_sts_l (some ⟨b, 0, none⟩) 3 tc 2 2 rfl (by decide) w2
  have HBL := Bx.mk hbl
  have HNB : Bx (b ≠ w.heap.size) := ⟨by
    intro hh
    have h1 := (ho.lt b rfl).1
    have h2 := (Array.getElem?_eq_some_iff.1 HZ1.out).1
    omega⟩
  rw [slA_two (Nat.lt_of_lt_of_le (by simp) hcap)] at hsl hTO
  have d2 : w2.cell? ⟨b, 2, none⟩ = some (.string p) := hc 2 (by simp)
  have HNM := Bx.mk (rnumbers_any (some ⟨b, 2, none⟩) 1 (tc - 2) [p] w2 hTO (by decide) hps)
  have HNA : Bx (∀ W, Below w2.heap.size w2 W → Calls Tryd.prog 31 #[.slice (some ⟨b, 2, none⟩) 1 (tc - 2)] W fun e w' => e = .returned (.bool ([p].all nameB)) ∧ W = w') := ⟨fun W hW => rnames_any _ _ _ _ W (hTO.below hW) (by decide) hps⟩
  clear hTO hT ho hb2 HC HZ1 HB1 hbl hcap
  unfold NuP at HNM
  rw [nu_one, HALN.out] at *
  clear hc
  go_wp2_with fail
  refine HNM.out.mono ?_
  rintro e2 w3 ⟨rfl, hb3⟩
  have d1 : w3.cell? ⟨b, 1, none⟩ = some (.string x) := (hb3.cell (p := ⟨b, 1, none⟩) HBL.out).trans c1
  have d2b : w3.cell? ⟨b, 2, none⟩ = some (.string p) := (hb3.cell (p := ⟨b, 2, none⟩) HBL.out).trans d2
  have HZ : Bx (w3.heap[w.heap.size]? = some (.cells askZ 27 (0, 0))) := ⟨(hb3.block _ (Array.getElem?_eq_some_iff.1 HZ2.out).1).trans HZ2.out⟩
  have HB : Bx (Below w.heap.size w w3) := ⟨bstep HB2.out hb3⟩
  have HNC := Bx.mk (HNA.out w3 hb3)
  clear c0 c1 d2 hsl hb3 HNM HNA HZ2 HB2 he he2 he3 he4 HALN
  cases hn : nameB p with
  | true =>
    have hr := name_nonum hn
    have HOT : Bx (tg1N x p = o) := ⟨by rw [← HOO.out, if_pos hn]⟩
    rw [hn] at HNC
    rw [hr]
    clear hn hr HOO
    go_wp2_with fail
    refine HNC.out.mono ?_
    rintro e3 w4 ⟨rfl, hw⟩
    subst hw
    clear HNC
    by_cases h1 : x = wUp
    · have HO : Bx (o = some ⟨1, p, ⟨#[]⟩, [], 0, 0⟩) := ⟨by rw [← HOT.out]; unfold tg1N; rw [if_pos h1]⟩
      rw [decide_eq_true h1] at q1
      clear h1
      have HAL : Bx ((#[.int .i64 1, .string p, .string ⟨#[]⟩, .slice none 0 0, .int .i64 0, .int .i64 0] : Array Value).all (·.oneCell') = true) := ⟨by simp [Value.oneCell']⟩
      have HTR : Bx (w3.there w.heap.size 0 6) := ⟨there_row HZ.out⟩
      have HST : Bx ((w3.setCells w.heap.size 0 #[.int .i64 1, .string p, .string ⟨#[]⟩, .slice none 0 0, .int .i64 0, .int .i64 0].toList).heap[w.heap.size]? = some (.cells #[.int .i64 1, .string p, .string ⟨#[]⟩, .slice none 0 0, .int .i64 0, .int .i64 0] 27 (0, 0))) := ⟨heap_stored HZ.out rfl⟩
      have HFB : Bx (Below w.heap.size w (w3.setCells w.heap.size 0 #[.int .i64 1, .string p, .string ⟨#[]⟩, .slice none 0 0, .int .i64 0, .int .i64 0].toList)) := ⟨below_setCells HB.out _ (Nat.le_refl _) _ 0⟩
      go_wp2_with (refine wpList_store_mid rfl 27 (.tmp 2) (.tmp 72) rfl w.heap.size 0 #[.int .i64 1, .string p, .string ⟨#[]⟩, .slice none 0 0, .int .i64 0, .int .i64 0] rfl rfl HTR.out ask_info22 HAL.out ?_)
      refine bodyPost_ret (v := .tuple #[.agg #[.int .i64 1, .string p, .string ⟨#[]⟩, .slice none 0 0, .int .i64 0, .int .i64 0], .string ⟨#[80, 85, 84]⟩]) (results_ask rfl _ _ w.heap.size #[.int .i64 1, .string p, .string ⟨#[]⟩, .slice none 0 0, .int .i64 0, .int .i64 0] _ rfl rfl HST.out ask_info22) rfl ?_
      exact rtg_some HO.out rfl rfl HFB.out
    · rw [decide_eq_false h1] at q1
      by_cases h2 : x = wHist
      · have HO : Bx (o = some ⟨2, p, ⟨#[]⟩, [], 0, 0⟩) := ⟨by rw [← HOT.out]; unfold tg1N; rw [if_neg h1, if_pos h2]⟩
        rw [decide_eq_true h2] at q2
        clear h1 h2
        have HAL : Bx ((#[.int .i64 2, .string p, .string ⟨#[]⟩, .slice none 0 0, .int .i64 0, .int .i64 0] : Array Value).all (·.oneCell') = true) := ⟨by simp [Value.oneCell']⟩
        have HTR : Bx (w3.there w.heap.size 0 6) := ⟨there_row HZ.out⟩
        have HST : Bx ((w3.setCells w.heap.size 0 #[.int .i64 2, .string p, .string ⟨#[]⟩, .slice none 0 0, .int .i64 0, .int .i64 0].toList).heap[w.heap.size]? = some (.cells #[.int .i64 2, .string p, .string ⟨#[]⟩, .slice none 0 0, .int .i64 0, .int .i64 0] 27 (0, 0))) := ⟨heap_stored HZ.out rfl⟩
        have HFB : Bx (Below w.heap.size w (w3.setCells w.heap.size 0 #[.int .i64 2, .string p, .string ⟨#[]⟩, .slice none 0 0, .int .i64 0, .int .i64 0].toList)) := ⟨below_setCells HB.out _ (Nat.le_refl _) _ 0⟩
        go_wp2_with (refine wpList_store_mid rfl 27 (.tmp 2) (.tmp 78) rfl w.heap.size 0 #[.int .i64 2, .string p, .string ⟨#[]⟩, .slice none 0 0, .int .i64 0, .int .i64 0] rfl rfl HTR.out ask_info22 HAL.out ?_)
        refine bodyPost_ret (v := .tuple #[.agg #[.int .i64 2, .string p, .string ⟨#[]⟩, .slice none 0 0, .int .i64 0, .int .i64 0], .string ⟨#[80, 79, 83, 84]⟩]) (results_ask rfl _ _ w.heap.size #[.int .i64 2, .string p, .string ⟨#[]⟩, .slice none 0 0, .int .i64 0, .int .i64 0] _ rfl rfl HST.out ask_info22) rfl ?_
        exact rtg_some HO.out rfl rfl HFB.out
      · rw [decide_eq_false h2] at q2
        by_cases h3 : x = wSpecs
        · have HO : Bx (o = some ⟨3, p, ⟨#[]⟩, [], 0, 0⟩) := ⟨by rw [← HOT.out]; unfold tg1N; rw [if_neg h1, if_neg h2, if_pos h3]⟩
          rw [decide_eq_true h3] at q3
          clear h1 h2 h3
          have HAL : Bx ((#[.int .i64 3, .string p, .string ⟨#[]⟩, .slice none 0 0, .int .i64 0, .int .i64 0] : Array Value).all (·.oneCell') = true) := ⟨by simp [Value.oneCell']⟩
          have HTR : Bx (w3.there w.heap.size 0 6) := ⟨there_row HZ.out⟩
          have HST : Bx ((w3.setCells w.heap.size 0 #[.int .i64 3, .string p, .string ⟨#[]⟩, .slice none 0 0, .int .i64 0, .int .i64 0].toList).heap[w.heap.size]? = some (.cells #[.int .i64 3, .string p, .string ⟨#[]⟩, .slice none 0 0, .int .i64 0, .int .i64 0] 27 (0, 0))) := ⟨heap_stored HZ.out rfl⟩
          have HFB : Bx (Below w.heap.size w (w3.setCells w.heap.size 0 #[.int .i64 3, .string p, .string ⟨#[]⟩, .slice none 0 0, .int .i64 0, .int .i64 0].toList)) := ⟨below_setCells HB.out _ (Nat.le_refl _) _ 0⟩
          go_wp2_with (refine wpList_store_mid rfl 27 (.tmp 2) (.tmp 84) rfl w.heap.size 0 #[.int .i64 3, .string p, .string ⟨#[]⟩, .slice none 0 0, .int .i64 0, .int .i64 0] rfl rfl HTR.out ask_info22 HAL.out ?_)
          refine bodyPost_ret (v := .tuple #[.agg #[.int .i64 3, .string p, .string ⟨#[]⟩, .slice none 0 0, .int .i64 0, .int .i64 0], .string ⟨#[80, 85, 84]⟩]) (results_ask rfl _ _ w.heap.size #[.int .i64 3, .string p, .string ⟨#[]⟩, .slice none 0 0, .int .i64 0, .int .i64 0] _ rfl rfl HST.out ask_info22) rfl ?_
          exact rtg_some HO.out rfl rfl HFB.out
        · rw [decide_eq_false h3] at q3
          have HO : Bx (o = none) := ⟨by rw [← HOT.out]; unfold tg1N; rw [if_neg h1, if_neg h2, if_neg h3]⟩
          clear h1 h2 h3
          have HAL : Bx ((#[.int .i64 0, .string ⟨#[]⟩, .string ⟨#[]⟩, .slice none 0 0, .int .i64 0, .int .i64 0] : Array Value).all (·.oneCell') = true) := ⟨by simp [Value.oneCell']⟩
          have HTR : Bx (w3.there w.heap.size 0 6) := ⟨there_row HZ.out⟩
          have HST : Bx ((w3.setCells w.heap.size 0 #[.int .i64 0, .string ⟨#[]⟩, .string ⟨#[]⟩, .slice none 0 0, .int .i64 0, .int .i64 0].toList).heap[w.heap.size]? = some (.cells #[.int .i64 0, .string ⟨#[]⟩, .string ⟨#[]⟩, .slice none 0 0, .int .i64 0, .int .i64 0] 27 (0, 0))) := ⟨heap_stored HZ.out rfl⟩
          have HFB : Bx (Below w.heap.size w (w3.setCells w.heap.size 0 #[.int .i64 0, .string ⟨#[]⟩, .string ⟨#[]⟩, .slice none 0 0, .int .i64 0, .int .i64 0].toList)) := ⟨below_setCells HB.out _ (Nat.le_refl _) _ 0⟩
          go_wp2_with (refine wpList_store_mid rfl 27 (.tmp 2) (.tmp 141) rfl w.heap.size 0 #[.int .i64 0, .string ⟨#[]⟩, .string ⟨#[]⟩, .slice none 0 0, .int .i64 0, .int .i64 0] rfl rfl HTR.out ask_info22 HAL.out ?_)
          refine bodyPost_ret (v := .tuple #[.agg #[.int .i64 0, .string ⟨#[]⟩, .string ⟨#[]⟩, .slice none 0 0, .int .i64 0, .int .i64 0], .string ⟨#[]⟩]) (results_ask rfl _ _ w.heap.size #[.int .i64 0, .string ⟨#[]⟩, .string ⟨#[]⟩, .slice none 0 0, .int .i64 0, .int .i64 0] _ rfl rfl HST.out ask_info22) rfl ?_
          exact rtg_none HO.out rfl HFB.out
  | false =>
    rw [hn] at HNC
    have HOF : Bx ((match rdB p with | some n => tg1D x n | none => none) = o) := ⟨by rw [← HOO.out, if_neg (by rw [hn]; decide)]⟩
    clear hn HOO
    cases hr : rdB p with
    | none =>
      have HO : Bx (o = none) := ⟨by rw [← HOF.out, hr]⟩
      clear hr HOF
      go_wp2_with fail
      refine HNC.out.mono ?_
      rintro e3 w4 ⟨rfl, hw⟩
      subst hw
      clear HNC
      have HAL : Bx ((#[.int .i64 0, .string ⟨#[]⟩, .string ⟨#[]⟩, .slice none 0 0, .int .i64 0, .int .i64 0] : Array Value).all (·.oneCell') = true) := ⟨by simp [Value.oneCell']⟩
      have HTR : Bx (w3.there w.heap.size 0 6) := ⟨there_row HZ.out⟩
      have HST : Bx ((w3.setCells w.heap.size 0 #[.int .i64 0, .string ⟨#[]⟩, .string ⟨#[]⟩, .slice none 0 0, .int .i64 0, .int .i64 0].toList).heap[w.heap.size]? = some (.cells #[.int .i64 0, .string ⟨#[]⟩, .string ⟨#[]⟩, .slice none 0 0, .int .i64 0, .int .i64 0] 27 (0, 0))) := ⟨heap_stored HZ.out rfl⟩
      have HFB : Bx (Below w.heap.size w (w3.setCells w.heap.size 0 #[.int .i64 0, .string ⟨#[]⟩, .string ⟨#[]⟩, .slice none 0 0, .int .i64 0, .int .i64 0].toList)) := ⟨below_setCells HB.out _ (Nat.le_refl _) _ 0⟩
      go_wp2_with (refine wpList_store_mid rfl 27 (.tmp 2) (.tmp 141) rfl w.heap.size 0 #[.int .i64 0, .string ⟨#[]⟩, .string ⟨#[]⟩, .slice none 0 0, .int .i64 0, .int .i64 0] rfl rfl HTR.out ask_info22 HAL.out ?_)
      refine bodyPost_ret (v := .tuple #[.agg #[.int .i64 0, .string ⟨#[]⟩, .string ⟨#[]⟩, .slice none 0 0, .int .i64 0, .int .i64 0], .string ⟨#[]⟩]) (results_ask rfl _ _ w.heap.size #[.int .i64 0, .string ⟨#[]⟩, .string ⟨#[]⟩, .slice none 0 0, .int .i64 0, .int .i64 0] _ rfl rfl HST.out ask_info22) rfl ?_
      exact rtg_none HO.out rfl HFB.out
    | some n =>
      have HOD : Bx (tg1D x n = o) := ⟨by rw [← HOF.out, hr]⟩
      clear hr HOF
      simp only [Option.getD_some, Option.isSome_some]
      go_wp2_with fail
      refine HNC.out.mono ?_
      rintro e3 w4 ⟨rfl, hw⟩
      subst hw
      clear HNC
      by_cases h4 : x = wJobs
      · have HO : Bx (o = some ⟨5, ⟨#[]⟩, ⟨#[]⟩, [], n, 0⟩) := ⟨by rw [← HOD.out]; unfold tg1D; rw [if_pos h4]⟩
        rw [decide_eq_true h4] at q4
        clear h4
        have HAL : Bx ((#[.int .i64 5, .string ⟨#[]⟩, .string ⟨#[]⟩, .slice none 0 0, .int .i64 n, .int .i64 0] : Array Value).all (·.oneCell') = true) := ⟨by simp [Value.oneCell']⟩
        have HTR : Bx (w3.there w.heap.size 0 6) := ⟨there_row HZ.out⟩
        have HST : Bx ((w3.setCells w.heap.size 0 #[.int .i64 5, .string ⟨#[]⟩, .string ⟨#[]⟩, .slice none 0 0, .int .i64 n, .int .i64 0].toList).heap[w.heap.size]? = some (.cells #[.int .i64 5, .string ⟨#[]⟩, .string ⟨#[]⟩, .slice none 0 0, .int .i64 n, .int .i64 0] 27 (0, 0))) := ⟨heap_stored HZ.out rfl⟩
        have HFB : Bx (Below w.heap.size w (w3.setCells w.heap.size 0 #[.int .i64 5, .string ⟨#[]⟩, .string ⟨#[]⟩, .slice none 0 0, .int .i64 n, .int .i64 0].toList)) := ⟨below_setCells HB.out _ (Nat.le_refl _) _ 0⟩
        go_wp2_with (refine wpList_store_mid rfl 27 (.tmp 2) (.tmp 97) rfl w.heap.size 0 #[.int .i64 5, .string ⟨#[]⟩, .string ⟨#[]⟩, .slice none 0 0, .int .i64 n, .int .i64 0] rfl rfl HTR.out ask_info22 HAL.out ?_)
        refine bodyPost_ret (v := .tuple #[.agg #[.int .i64 5, .string ⟨#[]⟩, .string ⟨#[]⟩, .slice none 0 0, .int .i64 n, .int .i64 0], .string ⟨#[71, 69, 84]⟩]) (results_ask rfl _ _ w.heap.size #[.int .i64 5, .string ⟨#[]⟩, .string ⟨#[]⟩, .slice none 0 0, .int .i64 n, .int .i64 0] _ rfl rfl HST.out ask_info22) rfl ?_
        exact rtg_some HO.out rfl rfl HFB.out
      · rw [decide_eq_false h4] at q4
        by_cases h5 : x = wHeads
        · have HO : Bx (o = some ⟨6, ⟨#[]⟩, ⟨#[]⟩, [], n, 0⟩) := ⟨by rw [← HOD.out]; unfold tg1D; rw [if_neg h4, if_pos h5]⟩
          rw [decide_eq_true h5] at q5
          clear h4 h5
          have HAL : Bx ((#[.int .i64 6, .string ⟨#[]⟩, .string ⟨#[]⟩, .slice none 0 0, .int .i64 n, .int .i64 0] : Array Value).all (·.oneCell') = true) := ⟨by simp [Value.oneCell']⟩
          have HTR : Bx (w3.there w.heap.size 0 6) := ⟨there_row HZ.out⟩
          have HST : Bx ((w3.setCells w.heap.size 0 #[.int .i64 6, .string ⟨#[]⟩, .string ⟨#[]⟩, .slice none 0 0, .int .i64 n, .int .i64 0].toList).heap[w.heap.size]? = some (.cells #[.int .i64 6, .string ⟨#[]⟩, .string ⟨#[]⟩, .slice none 0 0, .int .i64 n, .int .i64 0] 27 (0, 0))) := ⟨heap_stored HZ.out rfl⟩
          have HFB : Bx (Below w.heap.size w (w3.setCells w.heap.size 0 #[.int .i64 6, .string ⟨#[]⟩, .string ⟨#[]⟩, .slice none 0 0, .int .i64 n, .int .i64 0].toList)) := ⟨below_setCells HB.out _ (Nat.le_refl _) _ 0⟩
          go_wp2_with (refine wpList_store_mid rfl 27 (.tmp 2) (.tmp 101) rfl w.heap.size 0 #[.int .i64 6, .string ⟨#[]⟩, .string ⟨#[]⟩, .slice none 0 0, .int .i64 n, .int .i64 0] rfl rfl HTR.out ask_info22 HAL.out ?_)
          refine bodyPost_ret (v := .tuple #[.agg #[.int .i64 6, .string ⟨#[]⟩, .string ⟨#[]⟩, .slice none 0 0, .int .i64 n, .int .i64 0], .string ⟨#[71, 69, 84]⟩]) (results_ask rfl _ _ w.heap.size #[.int .i64 6, .string ⟨#[]⟩, .string ⟨#[]⟩, .slice none 0 0, .int .i64 n, .int .i64 0] _ rfl rfl HST.out ask_info22) rfl ?_
          exact rtg_some HO.out rfl rfl HFB.out
        · rw [decide_eq_false h5] at q5
          have HO : Bx (o = none) := ⟨by rw [← HOD.out]; unfold tg1D; rw [if_neg h4, if_neg h5]⟩
          clear h4 h5
          have HAL : Bx ((#[.int .i64 0, .string ⟨#[]⟩, .string ⟨#[]⟩, .slice none 0 0, .int .i64 0, .int .i64 0] : Array Value).all (·.oneCell') = true) := ⟨by simp [Value.oneCell']⟩
          have HTR : Bx (w3.there w.heap.size 0 6) := ⟨there_row HZ.out⟩
          have HST : Bx ((w3.setCells w.heap.size 0 #[.int .i64 0, .string ⟨#[]⟩, .string ⟨#[]⟩, .slice none 0 0, .int .i64 0, .int .i64 0].toList).heap[w.heap.size]? = some (.cells #[.int .i64 0, .string ⟨#[]⟩, .string ⟨#[]⟩, .slice none 0 0, .int .i64 0, .int .i64 0] 27 (0, 0))) := ⟨heap_stored HZ.out rfl⟩
          have HFB : Bx (Below w.heap.size w (w3.setCells w.heap.size 0 #[.int .i64 0, .string ⟨#[]⟩, .string ⟨#[]⟩, .slice none 0 0, .int .i64 0, .int .i64 0].toList)) := ⟨below_setCells HB.out _ (Nat.le_refl _) _ 0⟩
          go_wp2_with (refine wpList_store_mid rfl 27 (.tmp 2) (.tmp 141) rfl w.heap.size 0 #[.int .i64 0, .string ⟨#[]⟩, .string ⟨#[]⟩, .slice none 0 0, .int .i64 0, .int .i64 0] rfl rfl HTR.out ask_info22 HAL.out ?_)
          refine bodyPost_ret (v := .tuple #[.agg #[.int .i64 0, .string ⟨#[]⟩, .string ⟨#[]⟩, .slice none 0 0, .int .i64 0, .int .i64 0], .string ⟨#[]⟩]) (results_ask rfl _ _ w.heap.size #[.int .i64 0, .string ⟨#[]⟩, .string ⟨#[]⟩, .slice none 0 0, .int .i64 0, .int .i64 0] _ rfl rfl HST.out ask_info22) rfl ?_
          exact rtg_none HO.out rfl HFB.out
end Go.Proofs.YtpfijaojgeceeaaDoor
namespace Go.Proofs.YtpfijaojgeceeaaDoor
open Go.RowKit
set_option linter.unusedVariables false

def lvX : WX := ⟨mGet, ⟨#[47, 106, 111, 98, 115, 47, 55]⟩, ⟨#[]⟩, []⟩
def lvA : As := ⟨5, ⟨#[]⟩, ⟨#[]⟩, [], 7, 0⟩
set_option maxRecDepth 100000 in
theorem live23 : rtPar lvX = (lvA, 200) := by rw [rt_par]; kernel_rfl
set_option maxRecDepth 100000 in
set_option maxHeartbeats 1000000 in
theorem rtlives_any (w : World) (hE : RtE w) :
    Calls Tryd.prog 11 #[] w fun e w' => e = .returned (.bool true) ∧ Below w.heap.size w w' := by
  have hp := parse_rt lvX none 0 0 w ⟨rfl, Byt.nil, Nat.le_refl _, Nat.zero_le _, fun _ => rfl, fun h => absurd h (Nat.lt_irrefl _)⟩ (by decide +kernel) (by decide) hE
  rw [live23] at hp
  have HP : Bx (Calls Tryd.prog 7 #[.agg #[.string ⟨#[71, 69, 84]⟩, .string ⟨#[47, 106, 111, 98, 115, 47, 55]⟩, .string ⟨#[]⟩, .slice none 0 0]] w (ParP (lvA, 200) w)) := ⟨hp⟩
  clear hp hE
  go_enter Tryd.func11, Tryd.ntmps11
  go_wp2_with fail
  refine HP.out.mono ?_
  rintro e w2 ⟨ab, cap, rfl, _, _, hb2⟩
  have HB : Bx (Below w.heap.size w (w2.alloc (.cells #[.int .i64 5, .string ⟨#[]⟩, .string ⟨#[]⟩, .slice ab ([] : List Int).length cap, .int .i64 7, .int .i64 0] 27))) := ⟨bstep hb2 ((Below.refl _ _).alloc (Nat.le_refl _) _)⟩
  unfold lvA
  go_wp2
  go_ret
  exact ⟨rfl, HB.out⟩
end Go.Proofs.YtpfijaojgeceeaaDoor
namespace Go.Proofs.YtpfijaojgeceeaaDoor
open Go.RowKit
set_option linter.unusedVariables false

set_option maxRecDepth 100000 in
theorem tgl_two {e x : ByteArray} (h : e = ⟨#[]⟩) : tgL [e, x] = tg0 x := if_pos h
set_option maxRecDepth 100000 in
theorem tgl_three {e x p : ByteArray} (h : e = ⟨#[]⟩) : tgL [e, x, p] = if nameB p = true then tg1N x p else match rdB p with | some n => tg1D x n | none => none := if_pos h
set_option maxRecDepth 100000 in
theorem tgl_four {e x p q : ByteArray} (h : e = ⟨#[]⟩) : tgL [e, x, p, q] = if nameB p = true ∧ nameB q = true ∧ x = wJobs then some ⟨4, p, q, [], 0, 0⟩ else match rdB p, rdB q with | some n, some m => tg2D x n m | _, _ => none := if_pos h
set_option maxRecDepth 100000 in
theorem tgl_head {e : ByteArray} {L : List ByteArray} (h : e ≠ ⟨#[]⟩) : tgL (e :: L) = none := by
  match L with
  | [] => rfl
  | [_] => exact if_neg h
  | [_, _] => exact if_neg h
  | [_, _, _] => exact if_neg h
  | _ :: _ :: _ :: _ :: _ => rfl
set_option maxRecDepth 100000 in
theorem rtarget_any (s : ByteArray) (w : World) (hs : s.size ≤ 1000000) : Calls Tryd.prog 21 #[.string s] w (RtgP (tgV s) w) := by
  have hC := fdc_any s hs
  have hsm := pcs_small 47 s
  have hV : tgV s = tgL (pcs 47 s) := rfl
  rw [hV]
  unfold fL fOk at hC
  by_cases hok : ((pcs 47 s).length : Int) ≤ 4
  · rw [if_pos hok, decide_eq_true (by exact hok)] at hC
    have hps : ∀ q ∈ pcs 47 s, q.size ≤ 1000000 := fun q hq => Nat.le_trans (hsm q hq) hs
    generalize pcs 47 s = P at *
    match P, hok with
    | [], _ => exact rtg_few s [] true _ w hC (.inr (by simp)) rfl
    | [e], _ => exact rtg_few s [e] true _ w hC (.inr (by simp)) rfl
    | [e, x], _ =>
      by_cases he : e = ⟨#[]⟩
      · rw [tgl_two he]; exact rtg_two s e x w hC he
      · exact rtg_head s _ _ w hC (by simp) he (tgl_head he)
    | [e, x, p], _ =>
      by_cases he : e = ⟨#[]⟩
      · rw [tgl_three he]; exact rtg_three s e x p w hC he (fun q hq => hps q (List.mem_cons_of_mem _ (List.mem_cons_of_mem _ hq))) _ rfl
      · exact rtg_head s _ _ w hC (by simp) he (tgl_head he)
    | [e, x, p, q], _ =>
      by_cases he : e = ⟨#[]⟩
      · rw [tgl_four he]; exact rtg_four s e x p q w hC he (fun y hy => hps y (List.mem_cons_of_mem _ (List.mem_cons_of_mem _ hy))) _ rfl
      · exact rtg_head s _ _ w hC (by simp) he (tgl_head he)
    | _ :: _ :: _ :: _ :: _ :: _, h => simp at h; omega
  · rw [if_neg hok, decide_eq_false (by exact hok)] at hC
    refine rtg_few s [] false _ w hC (.inl rfl) ?_
    match hP : pcs 47 s with
    | [] => rfl
    | [_] => rfl
    | [_, _] => rw [hP] at hok; simp at hok
    | [_, _, _] => rw [hP] at hok; simp at hok
    | [_, _, _, _] => rw [hP] at hok; simp at hok
    | _ :: _ :: _ :: _ :: _ :: _ => rfl
set_option maxRecDepth 100000 in
theorem tg_bare {s : ByteArray} {a : As} (h : tgV s = some a) : a.b = [] := by
  obtain ⟨h1, h2⟩ := rt_fields s
  rw [h] at h1
  cases hf : rtTg (fL 47 s 4) with
  | none => rw [hf] at h1; cases h1
  | some y =>
    rw [hf] at h1
    obtain ⟨r, a2⟩ := y
    have : a2 = a := by simpa using h1
    subst this
    exact (h2 r a2 hf).2.2
set_option maxRecDepth 100000 in
theorem mth_cases (k : Int) : (mthK k = mPut ∧ (k = 1 ∨ k = 3)) ∨ ((mthK k = mPost ∨ mthK k = mGet) ∧ ¬ (k = 1 ∨ k = 3)) := by
  unfold mthK
  by_cases h1 : k = 1 ∨ k = 3
  · rw [if_pos h1]; exact .inl ⟨rfl, h1⟩
  · rw [if_neg h1]
    by_cases h2 : k = 2 ∨ k = 4
    · rw [if_pos h2]; exact .inr ⟨.inl rfl, h1⟩
    · rw [if_neg h2]; exact .inr ⟨.inr rfl, h1⟩
set_option maxRecDepth 100000 in
theorem mth_ne (k : Int) : mthK k ≠ ⟨#[]⟩ := by
  rcases mth_cases k with ⟨h, _⟩ | ⟨h | h, _⟩ <;> rw [h] <;> decide +kernel
set_option maxRecDepth 100000 in
theorem mth_put (k : Int) : decide (mthK k = mPut) = decide (k = 1 ∨ k = 3) := by
  rcases mth_cases k with ⟨h, h2⟩ | ⟨h | h, h2⟩
  · rw [h, decide_eq_true rfl, decide_eq_true h2]
  · rw [h, decide_eq_false h2]; decide +kernel
  · rw [h, decide_eq_false h2]; decide +kernel
set_option maxRecDepth 100000 in
theorem put_l (x : ByteArray) : (x.toList == [80, 85, 84]) = decide (x = mPut) := w_l x _ _ rfl
set_option maxRecDepth 100000 in
theorem pv_none {x : WX} (h : tgV x.t = none) : parV x = (as0, 404) := by unfold parV; rw [h]
set_option maxRecDepth 100000 in
theorem pv_405 {x : WX} {a : As} (h : tgV x.t = some a) (hm : x.m ≠ mthK a.k) : parV x = (as0, 405) := by unfold parV; rw [h]; exact if_neg hm
set_option maxRecDepth 100000 in
theorem pv_body {x : WX} {a : As} (h : tgV x.t = some a) (hm : x.m = mthK a.k) (hk : a.k = 1 ∨ a.k = 3) : parV x = (⟨a.k, a.nm, a.sp, x.b, a.A, a.B⟩, 200) := by unfold parV; rw [h]; show (if x.m = mthK a.k then _ else _) = _; rw [if_pos hm, if_pos hk]
set_option maxRecDepth 100000 in
theorem pv_bare {x : WX} {a : As} (h : tgV x.t = some a) (hm : x.m = mthK a.k) (hk : ¬ (a.k = 1 ∨ a.k = 3)) : parV x = (a, 200) := by unfold parV; rw [h]; show (if x.m = mthK a.k then _ else _) = _; rw [if_pos hm, if_neg hk]
set_option maxRecDepth 100000 in
set_option maxHeartbeats 8000000 in
set_option maxRecDepth 100000 in
theorem rparse_any (x : WX) (xa : Option Addr) (xn xc : Nat) (w : World) (hb : Bts w xa xn xc x.b) (ht : x.t.size ≤ 1000000) (hn : xn ≤ 1000000) :
    Calls Tryd.prog 8 #[reqV x (.slice xa xn xc)] w (ParP (parV x) w) := by
  obtain ⟨hROW, hRZ, hsz⟩ := two_new18 w (.cells #[.string x.m, .string x.t, .string x.k, .slice xa xn xc] 24) (.cells askZ 27)
  have hB1 : Below w.heap.size w ((w.alloc (.cells #[.string x.m, .string x.t, .string x.k, .slice xa xn xc] 24)).alloc (.cells askZ 27)) := ((Below.refl _ _).alloc (Nat.le_refl _) _).alloc (by simp) _
  have hW1 : w.heap.size + 1 < ((w.alloc (.cells #[.string x.m, .string x.t, .string x.k, .slice xa xn xc] 24)).alloc (.cells askZ 27)).heap.size := (Array.getElem?_eq_some_iff.1 hRZ).1
  have HTC : Bx (∀ W, Calls Tryd.prog 21 #[.string x.t] W (RtgP (tgV x.t) W)) := ⟨fun W => rtarget_any x.t W ht⟩
  have HP0 : Bx (tgV x.t = none → parV x = (as0, 404)) := ⟨fun h => pv_none h⟩
  have HP1 : Bx (∀ a, tgV x.t = some a → x.m ≠ mthK a.k → parV x = (as0, 405)) := ⟨fun a h => pv_405 h⟩
  have HP2 : Bx (∀ a, tgV x.t = some a → x.m = mthK a.k → (a.k = 1 ∨ a.k = 3) → parV x = (⟨a.k, a.nm, a.sp, x.b, a.A, a.B⟩, 200)) := ⟨fun a h => pv_body h⟩
  have HP3 : Bx (∀ a, tgV x.t = some a → x.m = mthK a.k → ¬ (a.k = 1 ∨ a.k = 3) → parV x = (a, 200)) := ⟨fun a h => pv_bare h⟩
  have HBR : Bx (∀ a, tgV x.t = some a → a.b = []) := ⟨fun a h => tg_bare h⟩
  have HALL : Bx (∀ W, Below ((w.alloc (.cells #[.string x.m, .string x.t, .string x.k, .slice xa xn xc] 24)).alloc (.cells askZ 27)).heap.size ((w.alloc (.cells #[.string x.m, .string x.t, .string x.k, .slice xa xn xc] 24)).alloc (.cells askZ 27)) W → W.heap[w.heap.size]? = some (.cells #[.string x.m, .string x.t, .string x.k, .slice xa xn xc] 24 (0, 0)) ∧ W.heap[w.heap.size + 1]? = some (.cells askZ 27 (0, 0)) ∧ Below w.heap.size w W ∧ Bts W xa xn xc x.b) := ⟨fun W h => by
    have h2 := bstep hB1 h
    exact ⟨(h.block _ (by omega)).trans hROW, (h.block _ hW1).trans hRZ, h2, hb.below h2⟩⟩
  have c1 : ((w.alloc (.cells #[.string x.m, .string x.t, .string x.k, .slice xa xn xc] 24)).alloc (.cells askZ 27)).cell? ⟨w.heap.size, 1, none⟩ = some (.string x.t) := by rw [cell_of_row _ w.heap.size 1 _ _ (0, 0) hROW]; rfl
  have HXN := Bx.mk hn
  have HW1 := Bx.mk hW1
  have HZO : Bx (askZ.all (·.oneCell') = true) := ⟨by unfold askZ; simp [Value.oneCell']⟩
  unfold reqV
  generalize parV x = T at *
  generalize tgV x.t = o at *
  generalize x.t = xt at *
  generalize x.m = xm at *
  generalize x.k = xk at *
  generalize x.b = xb at *
  clear hROW hRZ hB1 hb hsz hW1 hn ht
  generalize hw1 : (w.alloc (.cells #[.string xm, .string xt, .string xk, .slice xa xn xc] 24)).alloc (.cells askZ 27) = W1 at *
  unfold askZ at hw1
  go_enter Tryd.func8, Tryd.ntmps8
  go_upto_region 1 with fail
  clear hw1
  go_wp2_with fail
  refine (HTC.out _).mono ?_
  rintro e w4 ⟨rfl, hb4⟩
  cases o with
  | none =>
    have HPT := Bx.mk (HP0.out rfl)
    simp only [Option.getD_none]
    have hNB : Below w4.heap.size w4 (w4.alloc (.cells (askV as0 none 0 0) 27)) := (Below.refl _ _).alloc (Nat.le_refl _) _
    obtain ⟨_, hZ5, hB5, _⟩ := HALL.out _ (bstep hb4 hNB)
    unfold askV at hZ5 hB5
    have e1b : (tgM none).toList = [] := nil_str rfl
    have e1 : ((tgM none).toList == []) = true := by rw [e1b]; rfl
    generalize tgM none = M at *
    go_upto_region 2 with fail
    generalize hw5 : w4.alloc (.cells #[.int .i64 as0.k, .string as0.nm, .string as0.sp, .slice none 0 0, .int .i64 as0.A, .int .i64 as0.B] 27) = w5 at *
    clear hw5
    have HTR : Bx (w5.there (w.heap.size + 1) 0 6) := ⟨there_row hZ5⟩
    have HST : Bx ((w5.setCells (w.heap.size + 1) 0 askZ.toList).heap[w.heap.size + 1]? = some (.cells (askV as0 none 0 0) 27 (0, 0))) := ⟨heap_stored hZ5 rfl⟩
    have HFB : Bx (Below w.heap.size w (w5.setCells (w.heap.size + 1) 0 askZ.toList)) := ⟨below_setCells hB5 _ (by omega) _ 0⟩
    clear hZ5 hB5 hNB hb4 HALL c1
    go_wp2_with (refine wpList_store_mid rfl 27 (.tmp 2) (.tmp 14) rfl (w.heap.size + 1) 0 askZ rfl rfl HTR.out ask_info22 HZO.out ?_)
    exact bodyPost_ret (v := .tuple #[.agg (askV as0 none 0 0), .int .i64 404]) (results_ask rfl _ _ (w.heap.size + 1) (askV as0 none 0 0) _ rfl rfl HST.out ask_info22) rfl (parp_no HPT.out rfl HFB.out)
  | some a =>
    have HAB := Bx.mk (HBR.out a rfl)
    simp only [Option.getD_some]
    have hM : tgM (some a) = mthK a.k := rfl
    rw [hM]
    have hN := heap_alloc_new w4 (.cells (askV a none 0 0) 27)
    have hNB : Below w4.heap.size w4 (w4.alloc (.cells (askV a none 0 0) 27)) := (Below.refl _ _).alloc (Nat.le_refl _) _
    have hZ5a : w4.heap.size < (w4.alloc (.cells (askV a none 0 0) 27)).heap.size := by simp
    have e1 : ((mthK a.k).toList == []) = false := by
      have := some_str (mth_ne a.k)
      simpa using this
    have e1b : ¬ (mthK a.k).toList = [] := some_str (mth_ne a.k)
    have hq := str_beq xm (mthK a.k)
    have hne : (xm.toList != (mthK a.k).toList) = !decide (xm = mthK a.k) := by rw [bne, hq]
    have e3 := put_l (mthK a.k)
    rw [mth_put] at e3
    have HQ1 : Bx (∀ h : xm ≠ mthK a.k, T = (as0, 405)) := ⟨fun h => HP1.out a rfl h⟩
    have HQ2 : Bx (xm = mthK a.k → (a.k = 1 ∨ a.k = 3) → T = (⟨a.k, a.nm, a.sp, xb, a.A, a.B⟩, 200)) := ⟨fun h => HP2.out a rfl h⟩
    have HQ3 : Bx (xm = mthK a.k → ¬ (a.k = 1 ∨ a.k = 3) → T = (a, 200)) := ⟨fun h => HP3.out a rfl h⟩
    generalize mthK a.k = M at *
    unfold askV at hN hNB hZ5a
    clear HP0 HP1 HP2 HP3 HBR HTC hM
    go_upto_region 2 with fail
    generalize hw5 : w4.alloc (.cells #[.int .i64 a.k, .string a.nm, .string a.sp, .slice none 0 0, .int .i64 a.A, .int .i64 a.B] 27) = w5 at *
    clear hw5
    have HG4 : Bx (w.heap.size + 1 < w4.heap.size) := ⟨Nat.lt_of_lt_of_le HW1.out hb4.size⟩
    obtain ⟨hX5, hZ5, hB5, hXb5⟩ := HALL.out _ (bstep hb4 hNB)
    have d0 : w5.cell? ⟨w.heap.size, 0, none⟩ = some (.string xm) := by rw [cell_of_row w5 _ 0 _ _ (0, 0) hX5]; rfl
    have HA5 := Bx.mk hN
    have HZ5 := Bx.mk hZ5a
    clear hN hNB hZ5a hb4 c1 HALL
    by_cases hm : xm = M
    · rw [decide_eq_true hm] at hq hne
      by_cases hk : a.k = 1 ∨ a.k = 3
      · have HPT := Bx.mk (HQ2.out hm hk)
        rw [decide_eq_true hk] at e3
        have cB : w5.cell? ⟨w.heap.size, 3, none⟩ = some (.slice xa xn xc) := by rw [cell_of_row w5 _ 3 _ _ (0, 0) hX5]; rfl
        have HXB5 := Bx.mk hXb5
        have HZR := Bx.mk hZ5
        have HBW := Bx.mk hB5
        clear hm hk hX5 hZ5 hB5 hXb5 HQ1 HQ2 HQ3
        go_wp2_with fail
        refine (copy_any xa xn xc xb w5 HXB5.out (by have := HXN.out; omega)).mono ?_
        rintro e w6 ⟨v6, rfl, ho6, hb6⟩
        have hlx : xn = xb.length := HXB5.out.len_eq.symm
        obtain ⟨vb, vc, hv6, _⟩ := Bts.of_owns ho6 HXB5.out.byt
        subst hv6
        have hA6 : w6.heap[w4.heap.size]? = some (.cells #[.int .i64 a.k, .string a.nm, .string a.sp, .slice none 0 0, .int .i64 a.A, .int .i64 a.B] 27 (0, 0)) := (hb6.block _ HZ5.out).trans HA5.out
        have hZ6 : w6.heap[w.heap.size + 1]? = some (.cells askZ 27 (0, 0)) := (hb6.block _ (Array.getElem?_eq_some_iff.1 HZR.out).1).trans HZR.out
        have d3 : w6.cell? ⟨w4.heap.size, 3, none⟩ = some (.slice none 0 0) := by rw [cell_of_row w6 _ 3 _ _ (0, 0) hA6]; rfl
        have f3 : w6.frozen? ⟨w4.heap.size, 3, none⟩ = false := frozen_of_row _ _ 3 _ _ hA6
        have hA7 : (w6.setCell ⟨w4.heap.size, 3, none⟩ (.slice vb xn vc)).heap[w4.heap.size]? = some (.cells (askV a vb xn vc) 27 (0, 0)) := heap_setCell_same w6 _ 3 _ _ _ hA6
        have hZ7 : (w6.setCell ⟨w4.heap.size, 3, none⟩ (.slice vb xn vc)).heap[w.heap.size + 1]? = some (.cells askZ 27 (0, 0)) := (setCells_other (vs := [.slice vb xn vc]) (o := 3) (by have := HG4.out; omega)).trans hZ6
        have hB7 : Below w.heap.size w (w6.setCell ⟨w4.heap.size, 3, none⟩ (.slice vb xn vc)) := below_setCells (vs := [.slice vb xn vc]) (o := 3) (bstep HBW.out hb6) _ (by have := HG4.out; omega)
        have ho7 : (w6.setCell ⟨w4.heap.size, 3, none⟩ (.slice vb xn vc)).ownsRow w5.heap.size 5 1 (.slice vb xn vc) xn (bv xb) := owns_setCells (vs := [.slice vb xn vc]) (o := 3) ho6 (fun q hq => by have := (ho6.lt q hq).1; have := HZ5.out; omega)
        have HO8 : Bx (((w6.setCell ⟨w4.heap.size, 3, none⟩ (.slice vb xn vc)).setCells (w.heap.size + 1) 0 (askV a vb xn vc).toList).ownsRow w.heap.size 5 1 (.slice vb xn vc) xn (bv xb)) := ⟨own_lowR (owns_setCells ho7 (fun q hq => by have := (ho7.lt q hq).1; have := HG4.out; have := HZ5.out; omega)) HBW.out.size⟩
        have HTR : Bx ((w6.setCell ⟨w4.heap.size, 3, none⟩ (.slice vb xn vc)).there (w.heap.size + 1) 0 6) := ⟨there_row hZ7⟩
        have HST : Bx (((w6.setCell ⟨w4.heap.size, 3, none⟩ (.slice vb xn vc)).setCells (w.heap.size + 1) 0 (askV a vb xn vc).toList).heap[w.heap.size + 1]? = some (.cells (askV a vb xn vc) 27 (0, 0))) := ⟨heap_stored hZ7 rfl⟩
        have HFB : Bx (Below w.heap.size w ((w6.setCell ⟨w4.heap.size, 3, none⟩ (.slice vb xn vc)).setCells (w.heap.size + 1) 0 (askV a vb xn vc).toList)) := ⟨below_setCells hB7 _ (by omega) _ 0⟩
        have HA7 := Bx.mk hA7
        have HAL := Bx.mk (askV_all a vb xn vc)
        have HLX := Bx.mk hlx
        clear hlx hA6 hA7 hZ6 hZ7 hB7 ho7 ho6 hb6
        go_wp2_with (first
          | (refine wpList_load_row rfl 27 (.tmp 4) rfl w4.heap.size rfl 27 (askV a vb xn vc) (0, 0) _ HA7.out Tryd.underlying27 rfl ask_info22 ?_)
          | (refine wpList_store_mid rfl 27 (.tmp 2) (.tmp 26) rfl (w.heap.size + 1) 0 (askV a vb xn vc) rfl rfl HTR.out ask_info22 HAL.out ?_))
        refine bodyPost_ret (v := .tuple #[.agg (askV a vb xn vc), .int .i64 200]) (results_ask rfl _ _ (w.heap.size + 1) (askV a vb xn vc) _ rfl rfl HST.out ask_info22) rfl ?_
        rw [HPT.out]
        refine ⟨vb, vc, ?_, ?_, HXB5.out.byt, HFB.out⟩
        · show _ = Ending.returned (.tuple #[.agg #[.int .i64 a.k, .string a.nm, .string a.sp, .slice vb xb.length vc, .int .i64 a.A, .int .i64 a.B], .int .i64 200])
          rw [← HLX.out]
        · show World.ownsRow _ _ _ _ (.slice vb xb.length vc) xb.length (bv xb)
          rw [← HLX.out]; exact HO8.out
      · have HPT := Bx.mk (HQ3.out hm hk)
        rw [decide_eq_false hk] at e3
        have HTR : Bx (w5.there (w.heap.size + 1) 0 6) := ⟨there_row hZ5⟩
        have HST : Bx ((w5.setCells (w.heap.size + 1) 0 (askV a none 0 0).toList).heap[w.heap.size + 1]? = some (.cells (askV a none 0 0) 27 (0, 0))) := ⟨heap_stored hZ5 rfl⟩
        have HFB : Bx (Below w.heap.size w (w5.setCells (w.heap.size + 1) 0 (askV a none 0 0).toList)) := ⟨below_setCells hB5 _ (by omega) _ 0⟩
        have HAL := Bx.mk (askV_all a none 0 0)
        clear hm hk hX5 hZ5 hB5 hXb5 HQ1 HQ2 HQ3
        go_wp2_with (first
          | (refine wpList_load_row rfl 27 (.tmp 4) rfl w4.heap.size rfl 27 (askV a none 0 0) (0, 0) _ HA5.out Tryd.underlying27 rfl ask_info22 ?_)
          | (refine wpList_store_mid rfl 27 (.tmp 2) (.tmp 26) rfl (w.heap.size + 1) 0 (askV a none 0 0) rfl rfl HTR.out ask_info22 HAL.out ?_))
        refine bodyPost_ret (v := .tuple #[.agg (askV a none 0 0), .int .i64 200]) (results_ask rfl _ _ (w.heap.size + 1) (askV a none 0 0) _ rfl rfl HST.out ask_info22) rfl ?_
        rw [HPT.out]
        refine ⟨none, 0, ?_, ?_, by show Byt a.b; rw [HAB.out]; exact Byt.nil, HFB.out⟩
        · show _ = Ending.returned (.tuple #[.agg (askV a none a.b.length 0), .int .i64 200])
          rw [HAB.out]; rfl
        · show World.ownsRow _ _ _ _ (.slice none a.b.length 0) a.b.length (bv a.b)
          rw [HAB.out]; exact World.ownsRow_nil _ _ _ _
    · rw [decide_eq_false hm] at hq hne
      have HPT := Bx.mk (HQ1.out hm)
      have HTR : Bx (w5.there (w.heap.size + 1) 0 6) := ⟨there_row hZ5⟩
      have HST : Bx ((w5.setCells (w.heap.size + 1) 0 askZ.toList).heap[w.heap.size + 1]? = some (.cells (askV as0 none 0 0) 27 (0, 0))) := ⟨heap_stored hZ5 rfl⟩
      have HFB : Bx (Below w.heap.size w (w5.setCells (w.heap.size + 1) 0 askZ.toList)) := ⟨below_setCells hB5 _ (by omega) _ 0⟩
      clear hm hX5 hZ5 hB5 hXb5 HQ1 HQ2 HQ3 e3
      go_wp2_with (refine wpList_store_mid rfl 27 (.tmp 2) (.tmp 19) rfl (w.heap.size + 1) 0 askZ rfl rfl HTR.out ask_info22 HZO.out ?_)
      exact bodyPost_ret (v := .tuple #[.agg (askV as0 none 0 0), .int .i64 405]) (results_ask rfl _ _ (w.heap.size + 1) (askV as0 none 0 0) _ rfl rfl HST.out ask_info22) rfl (parp_no HPT.out rfl HFB.out)
end Go.Proofs.YtpfijaojgeceeaaDoor
