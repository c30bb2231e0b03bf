/- What a request asks: the program's Parse. That anything is asked at all. -/
import Derived.Test.YtpfijaojgeceeaaGreatDoorAuae
import Derived.Test.YtpfijaojgeceeaaGreatDoorReqV
import Derived.Test.YtpfijaojgeceeaaGreatDoorAual
namespace Go.Proofs.YtpfijaojgeceeaaGreatDoor
open Go.RowKit
set_option linter.unusedVariables false

set_option maxRecDepth 100000 in
theorem rtb_info : (Tryz.prog.info? 51).map (·.size) = some 40 := by kernel_rfl
set_option maxRecDepth 100000 in
theorem idx_rt (k : Nat) (hk : k < 10) (w : World) : (Instr.index 51 (.agg rtC.toArray) (.int .i64 (k : Int))).run Tryz.prog w = .ok (rtV (rtL.getD k rt0)) w := by
  match k, hk with
  | 0, _ | 1, _ | 2, _ | 3, _ | 4, _ | 5, _ | 6, _ | 7, _ | 8, _ | 9, _ =>
    simp only [Instr.index, asIntOf, go_sem, part]
    simp
    rfl
set_option maxRecDepth 100000 in
theorem rt_drop (k : Nat) (hk : k < 10) : rtL.drop k = rtL.getD k rt0 :: rtL.drop (k + 1) := by
  match k, hk with
  | 0, _ | 1, _ | 2, _ | 3, _ | 4, _ | 5, _ | 6, _ | 7, _ | 8, _ | 9, _ => rfl
set_option maxRecDepth 100000 in
theorem rt_small (k : Nat) (hk : k < 10) : (rtL.getD k rt0).f.size ≤ 20 ∧ (ptsR (rtL.getD k rt0)).length ≤ 4 := by
  match k, hk with
  | 0, _ | 1, _ | 2, _ | 3, _ | 4, _ | 5, _ | 6, _ | 7, _ | 8, _ | 9, _ => exact ⟨by decide +kernel, by decide +kernel⟩
/-- what is answered -/
def ParP (T : As × Int) (w : World) (e : Ending) (w' : World) : Prop := ∃ ab cap, e = .returned (.tuple #[.agg (askV T.1 ab T.1.b.length cap), .int .i64 T.2]) ∧ w'.ownsRow w.heap.size 5 1 (.slice ab T.1.b.length cap) T.1.b.length (bv T.1.b) ∧ Byt T.1.b ∧ Below w.heap.size w w'
set_option maxRecDepth 100000 in
theorem parp_no {T : As × Int} {c : Int} {w w' : World} {e : Ending} (hT : T = (as0, c)) (he : e = .returned (.tuple #[.agg (askV as0 none 0 0), .int .i64 c])) (hb : Below w.heap.size w w') : ParP T w e w' := by
  subst hT
  exact ⟨none, 0, he, World.ownsRow_nil _ _ _ _, Byt.nil, hb⟩
set_option maxRecDepth 100000 in
/-- the answer's cases -/
theorem rtp_none {x : WX} (h : rtFind rtL (fL 47 x.t 4) = none) : rtPar x = (as0, 404) := by unfold rtPar; rw [h]
set_option maxRecDepth 100000 in
theorem rtp_405 {x : WX} {r : Rt} {a : As} (h : rtFind rtL (fL 47 x.t 4) = some (r, a)) (hm : x.m ≠ r.m) : rtPar x = (as0, 405) := by unfold rtPar; rw [h]; exact if_neg hm
set_option maxRecDepth 100000 in
theorem rtp_body {x : WX} {r : Rt} {a : As} (h : rtFind rtL (fL 47 x.t 4) = some (r, a)) (hm : x.m = r.m) (hh : r.h = true) : rtPar x = (⟨a.k, a.nm, a.sp, x.b, a.A, a.B⟩, 200) := by unfold rtPar; rw [h]; show (if x.m = r.m then _ else _) = _; rw [if_pos hm, if_pos hh]
set_option maxRecDepth 100000 in
theorem rtp_bare {x : WX} {r : Rt} {a : As} (h : rtFind rtL (fL 47 x.t 4) = some (r, a)) (hm : x.m = r.m) (hh : r.h = false) : rtPar x = (a, 200) := by unfold rtPar; rw [h]; show (if x.m = r.m then _ else _) = _; rw [if_pos hm, if_neg (by rw [hh]; decide)]
set_option maxRecDepth 100000 in
/-- pieces are no longer than what they are pieces of -/
theorem pcs_small (c : UInt8) (s : ByteArray) : ∀ q ∈ pcs c s, q.size ≤ s.size := by
  have key : ∀ l : List UInt8, ∀ p ∈ splitL c l, p.length ≤ l.length := by
    intro l
    induction l with
    | nil => intro p hp; simp [splitL] at hp; subst hp; exact Nat.le_refl _
    | cons b t ih =>
      intro p hp
      unfold splitL at hp
      split at hp
      · rcases List.mem_cons.1 hp with rfl | h
        · exact Nat.zero_le _
        · exact Nat.le_trans (ih p h) (Nat.le_succ _)
      · cases e : splitL c t with
        | nil => exact absurd e (splitL_ne c t)
        | cons q qs =>
          rw [e] at hp ih
          rcases List.mem_cons.1 hp with rfl | h
          · have := ih q List.mem_cons_self; simp; omega
          · exact Nat.le_trans (ih p (List.mem_cons_of_mem _ h)) (Nat.le_succ _)
  intro q hq
  unfold pcs at hq
  obtain ⟨p, hp, rfl⟩ := List.mem_map.1 hq
  rw [mkB_size, Lib.size_eq]
  exact key _ p hp
set_option maxRecDepth 100000 in
theorem fL_small (c : UInt8) (s : ByteArray) (m : Int) : ∀ q ∈ fL c s m, q.size ≤ s.size := by
  unfold fL
  split
  · exact pcs_small c s
  · intro q hq; cases hq
set_option maxRecDepth 100000 in
set_option maxHeartbeats 8000000 in
set_option maxRecDepth 100000 in
theorem parse_rt (x : WX) (xa : Option Addr) (xn xc : Nat) (w : World) (hb : Bts w xa xn xc x.b) (ht : x.t.size ≤ 1000000) (hn : xn ≤ 1000000) (hE : RtE w) :
    Calls Tryz.prog 9 #[reqV x (.slice xa xn xc)] w (ParP (rtPar x) w) := by
  obtain ⟨hROW, hRZ, hsz⟩ := two_new18 w (.cells #[.string x.m, .string x.t, .string x.k, .slice xa xn xc] 28) (.cells askZ 24)
  have hB1 : Below w.heap.size w ((w.alloc (.cells #[.string x.m, .string x.t, .string x.k, .slice xa xn xc] 28)).alloc (.cells askZ 24)) := ((Below.refl _ _).alloc (Nat.le_refl _) _).alloc (by simp) _
  have hW1 : w.heap.size + 1 < ((w.alloc (.cells #[.string x.m, .string x.t, .string x.k, .slice xa xn xc] 28)).alloc (.cells askZ 24)).heap.size := (Array.getElem?_eq_some_iff.1 hRZ).1
  have HCF : Bx (∀ W, Calls Tryz.prog 18 #[.string x.t, .int .u8 47, .int .i64 4] W fun e w' => ∃ v o, e = .returned (.tuple #[v, .bool o]) ∧ w'.ownsRow W.heap.size 9 1 v (fL 47 x.t 4).length (svT (fL 47 x.t 4)) ∧ Below W.heap.size W w') := ⟨fun W => by
    refine (fields_any x.t 47 4 W ht).mono ?_
    rintro e w' ⟨v, rfl, ho, hb⟩
    exact ⟨v, _, rfl, ho, hb⟩⟩
  have HQS : Bx (∀ q ∈ fL 47 x.t 4, q.size ≤ 1000000) := ⟨fun q hq => Nat.le_trans (fL_small 47 x.t 4 q hq) ht⟩
  have HFIT : Bx (RtFit (rtFind rtL (fL 47 x.t 4))) := ⟨(rt_fields x.t).2⟩
  have HP0 : Bx (rtFind rtL (fL 47 x.t 4) = none → rtPar x = (as0, 404)) := ⟨fun h => rtp_none h⟩
  have HP1 : Bx (∀ r a, rtFind rtL (fL 47 x.t 4) = some (r, a) → x.m ≠ r.m → rtPar x = (as0, 405)) := ⟨fun r a h => rtp_405 h⟩
  have HP2 : Bx (∀ r a, rtFind rtL (fL 47 x.t 4) = some (r, a) → x.m = r.m → r.h = true → rtPar x = (⟨a.k, a.nm, a.sp, x.b, a.A, a.B⟩, 200)) := ⟨fun r a h => rtp_body h⟩
  have HP3 : Bx (∀ r a, rtFind rtL (fL 47 x.t 4) = some (r, a) → x.m = r.m → r.h = false → rtPar x = (a, 200)) := ⟨fun r a h => rtp_bare h⟩
  have HROW := Bx.mk hROW
  have HRZ := Bx.mk hRZ
  have HB1 := Bx.mk hB1
  have HW1 := Bx.mk hW1
  have HE := Bx.mk hE
  have HXB := Bx.mk hb
  have HXN := Bx.mk hn
  have HZO : Bx (askZ.all (·.oneCell') = true) := ⟨by unfold askZ; simp [Value.oneCell']⟩
  unfold reqV
  generalize rtPar x = T at *
  generalize fL 47 x.t 4 = Q at *
  generalize x.t = xt at *
  generalize x.m = xm at *
  generalize x.k = xk at *
  generalize x.b = xb at *
  clear hROW hRZ hB1 hE hb hsz hW1 hn
  generalize hw1 : (w.alloc (.cells #[.string xm, .string xt, .string xk, .slice xa xn xc] 28)).alloc (.cells askZ 24) = W1 at *
  unfold askZ at hw1
  go_enter Tryz.func9, Tryz.ntmps9
  go_upto_region 1 with fail
  clear hw1
  have k1 : W1.drew.cell? ⟨w.heap.size, 1, none⟩ = some (.string xt) := by rw [cell_of_row W1.drew w.heap.size 1 _ _ (0, 0) HROW.out]; rfl
  have hS0 : W1.drew.cell? ⟨w.heap.size, 1, none⟩ = some (.string xt) ∧ Below W1.heap.size W1 W1.drew := ⟨k1, (Below.refl _ _).drew⟩
  have HC2 : Bx (∀ W, (W.cell? ⟨w.heap.size, 1, none⟩ = some (.string xt) ∧ Below W1.heap.size W1 W) → Calls Tryz.prog 18 #[.string xt, .int .u8 47, .int .i64 4] W fun e w' => ∃ v o, e = .returned (.tuple #[v, .bool o]) ∧ (w'.ownsRow W1.heap.size 9 1 v Q.length (svT Q) ∧ Below W1.heap.size W1 w') ∧ w'.cell? ⟨w.heap.size, 1, none⟩ = some (.string xt)) := ⟨fun W hW => by
    refine (HCF.out W).mono ?_
    rintro e w' ⟨v, o, rfl, ho, hb⟩
    refine ⟨v, o, rfl, ⟨own_lowR ho hW.2.size, bstep hW.2 hb⟩, ?_⟩
    rw [hb.cell (block_lt_of_cell hW.1)]; exact hW.1⟩
  clear k1 HCF
  go_cut [4] from 11 to 16 (fun v wx => wx.ownsRow W1.heap.size 9 1 v Q.length (svT Q) ∧ Below W1.heap.size W1 wx)
  case first =>
    go_region_held3 (fun W => W.cell? ⟨w.heap.size, 1, none⟩ = some (.string xt) ∧ Below W1.heap.size W1 W) (first | (exact hS0) | (exact hb6) | (assumption)) (first
      | (go_at_call 18; refine (HC2.out _ (by assumption)).mono ?_; rintro e6 w6 ⟨v6, o6, rfl, ho6, hc6⟩; have hb6 := And.intro hc6 ho6.2))
    go_wp2_with fail
    go_meet
    exact ho6
  case rest =>
    obtain ⟨ho, hbc⟩ := hcut
    obtain ⟨qa, qc, rfl, hTQ⟩ := Txt.of_owns ho
    have hBc := bstep HB1.out hbc
    have HALL : Bx (∀ W, Below wc.heap.size wc W → RtE W ∧ Txt W qa Q.length Q ∧ W.heap[w.heap.size]? = some (.cells #[.string xm, .string xt, .string xk, .slice xa xn xc] 28 (0, 0)) ∧ W.heap[w.heap.size + 1]? = some (.cells askZ 24 (0, 0)) ∧ Below w.heap.size w W ∧ Bts W xa xn xc xb) := ⟨fun W h => by
      have h1 := hbc.trans (h.mono hbc.size)
      have h2 := bstep hBc h
      exact ⟨HE.out.below h2, hTQ.below h, (h1.block _ (Array.getElem?_eq_some_iff.1 HROW.out).1).trans HROW.out, (h1.block _ (Array.getElem?_eq_some_iff.1 HRZ.out).1).trans HRZ.out, h2, HXB.out.below h2⟩⟩
    have HGT : Bx (w.heap.size + 1 < wc.heap.size) := ⟨Nat.lt_of_lt_of_le HW1.out hbc.size⟩
    have HRT := Bx.mk (HALL.out wc (Below.refl _ _)).1.r
    clear ho hbc hTQ hBc hS0 HC2 HROW HRZ HB1 HW1 HE HXB ht
    go_wp2_with (refine wpList_load_mid rfl 51 (.global 0) rfl 0 0 rfl rtC _ HRT.out.rng Tryz.underlying51 rfl rtb_info ?_)
    have HIX : Bx (∀ (k : Nat), k < 10 → ∀ W : World, (Instr.index 51 (.agg rtC.toArray) (.int .i64 (k : Int))).run Tryz.prog W = .ok (.agg #[.int .i64 (rtL.getD k rt0).k, .string (rtL.getD k rt0).m, .string (rtL.getD k rt0).f, .bool (rtL.getD k rt0).h]) W) := ⟨fun k hk W => idx_rt k hk W⟩
    generalize rtC.toArray = RC at *
    go_loopw [18] (fun i wr => ∃ k : Nat, k ≤ 10 ∧ i = .int .i64 k ∧ Bx (Below wc.heap.size wc wr) ∧ Bx (rtFind (rtL.drop k) Q = rtFind rtL Q)) (fun i _ => 10 - (intOf i).toNat)
    case atStart => exact ⟨0, by omega, rfl, ⟨Below.refl _ _⟩, ⟨rfl⟩⟩
    case round =>
      obtain ⟨k, hk, rfl, HB, HN⟩ := hrel
      by_cases hlt : k < 10
      · have hkI : (k : Int) < 10 := by omega
        have hix := HIX.out k hlt wr
        have hst := rt_drop k hlt
        obtain ⟨hsm, hpl⟩ := rt_small k hlt
        have HST : Bx (rtFind (rtL.getD k rt0 :: rtL.drop (k + 1)) Q = rtFind rtL Q) := ⟨by rw [← hst]; exact HN.out⟩
        obtain ⟨hEr, hQr, _, _, _, _⟩ := HALL.out wr HB.out
        have HRA : Bx (∀ W, RtE W → Txt W qa Q.length Q → Calls Tryz.prog 19 #[.agg #[.int .i64 (rtL.getD k rt0).k, .string (rtL.getD k rt0).m, .string (rtL.getD k rt0).f, .bool (rtL.getD k rt0).h], .slice qa Q.length qc] W fun e w' => RdRP (rtL.getD k rt0) Q e ∧ Below W.heap.size W w') := ⟨fun W h1 h2 => read_any _ qa _ qc Q W hsm hpl h2 HQS.out h1⟩
        generalize hrr : rtL.getD k rt0 = r at *
        have HR3 := Bx.mk (heap_alloc_new wr (.cells #[.int .i64 r.k, .string r.m, .string r.f, .bool r.h] 50))
        have HB3 : Bx (Below wr.heap.size wr (wr.alloc (.cells #[.int .i64 r.k, .string r.m, .string r.f, .bool r.h] 50))) := ⟨(Below.refl _ _).alloc (Nat.le_refl _) _⟩
        have HLT := Bx.mk hlt
        clear hrr hst hsm hpl hEr hQr hlt HIX HN
        go_upto_region 5 with fail
        generalize hw3 : wr.alloc (.cells #[.int .i64 r.k, .string r.m, .string r.f, .bool r.h] 50) = w3 at *
        clear hw3 hix
        have HB3c : Bx (Below wc.heap.size wc w3) := ⟨bstep HB.out HB3.out⟩
        obtain ⟨hE3, hQ3, _, _, _, _⟩ := HALL.out w3 HB3c.out
        have HRC := Bx.mk (HRA.out w3 hE3 hQ3)
        clear hE3 hQ3 HRA
        go_wp2_with (refine wpList_load_row rfl 50 (.tmp 7) rfl wr.heap.size rfl 50 #[.int .i64 r.k, .string r.m, .string r.f, .bool r.h] (0, 0) _ HR3.out Tryz.underlying50 rfl row_info ?_)
        refine HRC.out.mono ?_
        rintro e w4 ⟨hrd, hb4⟩
        have HB4c : Bx (Below wc.heap.size wc w4) := ⟨bstep HB3c.out hb4⟩
        have HR4 : Bx (w4.heap[wr.heap.size]? = some (.cells #[.int .i64 r.k, .string r.m, .string r.f, .bool r.h] 50 (0, 0))) := ⟨(hb4.block _ (Array.getElem?_eq_some_iff.1 HR3.out).1).trans HR3.out⟩
        unfold RdRP at hrd
        clear HRC HR3 HB3 HB3c hb4
        rcases hrow : rowRd r Q with _ | a
        · rw [hrow] at hrd
          have HNX : Bx (rtFind (rtL.drop (k + 1)) Q = rtFind rtL Q) := ⟨by rw [← HST.out, find_skip hrow]⟩
          simp only [Option.getD_none, Option.isSome_none] at hrd
          subst hrd
          have HB5 : Bx (Below wc.heap.size wc (w4.alloc (.cells (askV as0 none 0 0) 24))) := ⟨HB4c.out.alloc HB4c.out.size _⟩
          unfold askV as0 at HB5
          clear hrow HST HR4
          go_wp2_with fail
          go_roundw
          case rel => exact ⟨k + 1, by have := HLT.out; omega, by go_num, HB5, HNX⟩
          case measure => have := HLT.out; simp [intOf]; omega
        · rw [hrow] at hrd
          have HF : Bx (rtFind rtL Q = some (r, a)) := ⟨by rw [← HST.out, find_here hrow]⟩
          simp only [Option.getD_some, Option.isSome_some] at hrd
          subst hrd
          have HAB : Bx (a.b = []) := ⟨(HFIT.out r a HF.out).2.2⟩
          have HA5 := Bx.mk (heap_alloc_new w4 (.cells (askV a none 0 0) 24))
          have HB5 : Bx (Below wc.heap.size wc (w4.alloc (.cells (askV a none 0 0) 24))) := ⟨HB4c.out.alloc HB4c.out.size _⟩
          have HB45 : Bx (Below w4.heap.size w4 (w4.alloc (.cells (askV a none 0 0) 24))) := ⟨(Below.refl _ _).alloc (Nat.le_refl _) _⟩
          have HG4 : Bx (wr.heap.size < w4.heap.size) := ⟨(Array.getElem?_eq_some_iff.1 HR4.out).1⟩
          have hZ5 : w4.heap.size < (w4.alloc (.cells (askV a none 0 0) 24)).heap.size := by simp
          have HZ5 := Bx.mk hZ5
          have HGC : Bx (wc.heap.size ≤ w4.heap.size) := ⟨HB4c.out.size⟩
          clear hrow HST hZ5 HLT hkI hk
          unfold askV at HA5 HB5 HB45 HZ5
          go_upto_region 6 with fail
          generalize hw5 : w4.alloc (.cells #[.int .i64 a.k, .string a.nm, .string a.sp, .slice none 0 0, .int .i64 a.A, .int .i64 a.B] 24) = w5 at *
          clear hw5
          obtain ⟨_, _, hX5, hZ5, hBw5, hXb5⟩ := HALL.out w5 HB5.out
          have hR5 : w5.heap[wr.heap.size]? = some (.cells #[.int .i64 r.k, .string r.m, .string r.f, .bool r.h] 50 (0, 0)) := (HB45.out.block _ (Array.getElem?_eq_some_iff.1 HR4.out).1).trans HR4.out
          have c0 : w5.cell? ⟨w.heap.size, 0, none⟩ = some (.string xm) := by rw [cell_of_row w5 _ 0 _ _ (0, 0) hX5]; rfl
          have c1 : w5.cell? ⟨wr.heap.size, 1, none⟩ = some (.string r.m) := by rw [cell_of_row w5 _ 1 _ _ (0, 0) hR5]; rfl
          have hq := str_beq xm r.m
          have hne : (xm.toList != r.m.toList) = !decide (xm = r.m) := by rw [bne, hq]
          by_cases hm : xm = r.m
          · rw [decide_eq_true hm] at hq hne
            cases hh : r.h with
            | true =>
              have HPT : Bx (T = (⟨a.k, a.nm, a.sp, xb, a.A, a.B⟩, 200)) := ⟨HP2.out r a HF.out hm hh⟩
              have c3 : w5.cell? ⟨wr.heap.size, 3, none⟩ = some (.bool true) := by rw [cell_of_row w5 _ 3 _ _ (0, 0) hR5, hh]; rfl
              have cB : w5.cell? ⟨w.heap.size, 3, none⟩ = some (.slice xa xn xc) := by rw [cell_of_row w5 _ 3 _ _ (0, 0) hX5]; rfl
              have HXB5 := Bx.mk hXb5
              have HZR := Bx.mk hZ5
              have HBW := Bx.mk hBw5
              clear hm hh hX5 hR5 hZ5 hBw5 hXb5 HF HP1 HP2 HP3 HR4 HFIT
              generalize r.m = rm at *
              go_wp2_with fail
              refine (clone_any xa xn xc xb w5 HXB5.out (by have := HXN.out; omega)).mono ?_
              rintro e w6 ⟨v6, rfl, ho6, hb6⟩
              have hlx : xn = xb.length := HXB5.out.len_eq.symm
              obtain ⟨vb, vc, hv6, _⟩ := Bts.of_owns ho6 HXB5.out.byt
              subst hv6
              have hA6 : w6.heap[w4.heap.size]? = some (.cells #[.int .i64 a.k, .string a.nm, .string a.sp, .slice none 0 0, .int .i64 a.A, .int .i64 a.B] 24 (0, 0)) := (hb6.block _ HZ5.out).trans HA5.out
              have hZ6 : w6.heap[w.heap.size + 1]? = some (.cells askZ 24 (0, 0)) := (hb6.block _ (Array.getElem?_eq_some_iff.1 HZR.out).1).trans HZR.out
              have d3 : w6.cell? ⟨w4.heap.size, 3, none⟩ = some (.slice none 0 0) := by rw [cell_of_row w6 _ 3 _ _ (0, 0) hA6]; rfl
              have f3 : w6.frozen? ⟨w4.heap.size, 3, none⟩ = false := frozen_of_row _ _ 3 _ _ hA6
              have hA7 : (w6.setCell ⟨w4.heap.size, 3, none⟩ (.slice vb xn vc)).heap[w4.heap.size]? = some (.cells (askV a vb xn vc) 24 (0, 0)) := heap_setCell_same w6 _ 3 _ _ _ hA6
              have hZ7 : (w6.setCell ⟨w4.heap.size, 3, none⟩ (.slice vb xn vc)).heap[w.heap.size + 1]? = some (.cells askZ 24 (0, 0)) := (setCells_other (vs := [.slice vb xn vc]) (o := 3) (by have := HGC.out; have := HGT.out; omega)).trans hZ6
              have hB7 : Below w.heap.size w (w6.setCell ⟨w4.heap.size, 3, none⟩ (.slice vb xn vc)) := below_setCells (vs := [.slice vb xn vc]) (o := 3) (bstep HBW.out hb6) _ (by have := HGC.out; have := HGT.out; omega)
              have ho7 : (w6.setCell ⟨w4.heap.size, 3, none⟩ (.slice vb xn vc)).ownsRow w5.heap.size 5 1 (.slice vb xn vc) xn (bv xb) := owns_setCells (vs := [.slice vb xn vc]) (o := 3) ho6 (fun q hq => by have := (ho6.lt q hq).1; have := HZ5.out; omega)
              have HO8 : Bx (((w6.setCell ⟨w4.heap.size, 3, none⟩ (.slice vb xn vc)).setCells (w.heap.size + 1) 0 (askV a vb xn vc).toList).ownsRow w.heap.size 5 1 (.slice vb xn vc) xn (bv xb)) := ⟨own_lowR (owns_setCells ho7 (fun q hq => by have := (ho7.lt q hq).1; have := HBW.out.size; have := HGC.out; have := HGT.out; have := HZ5.out; omega)) HBW.out.size⟩
              have HTR : Bx ((w6.setCell ⟨w4.heap.size, 3, none⟩ (.slice vb xn vc)).there (w.heap.size + 1) 0 6) := ⟨there_row hZ7⟩
              have HST : Bx (((w6.setCell ⟨w4.heap.size, 3, none⟩ (.slice vb xn vc)).setCells (w.heap.size + 1) 0 (askV a vb xn vc).toList).heap[w.heap.size + 1]? = some (.cells (askV a vb xn vc) 24 (0, 0))) := ⟨heap_stored hZ7 rfl⟩
              have HFB : Bx (Below w.heap.size w ((w6.setCell ⟨w4.heap.size, 3, none⟩ (.slice vb xn vc)).setCells (w.heap.size + 1) 0 (askV a vb xn vc).toList)) := ⟨below_setCells hB7 _ (by omega) _ 0⟩
              have HA7 := Bx.mk hA7
              have HAL := Bx.mk (askV_all a vb xn vc)
              have HLX := Bx.mk hlx
              clear hlx hA6 hA7 hZ6 hZ7 hB7 ho7 ho6 hb6
              go_wp2_with (first
                | (refine wpList_load_row rfl 24 (.tmp 8) rfl w4.heap.size rfl 24 (askV a vb xn vc) (0, 0) _ HA7.out Tryz.underlying24 rfl ask_info22 ?_)
                | (refine wpList_store_mid rfl 24 (.tmp 2) (.tmp 41) rfl (w.heap.size + 1) 0 (askV a vb xn vc) rfl rfl HTR.out ask_info22 HAL.out ?_))
              refine bodyPost_ret (v := .tuple #[.agg (askV a vb xn vc), .int .i64 200]) (results_ask rfl _ _ (w.heap.size + 1) (askV a vb xn vc) _ rfl rfl HST.out ask_info22) rfl ?_
              rw [HPT.out]
              refine ⟨vb, vc, ?_, ?_, HXB5.out.byt, HFB.out⟩
              · show _ = Ending.returned (.tuple #[.agg #[.int .i64 a.k, .string a.nm, .string a.sp, .slice vb xb.length vc, .int .i64 a.A, .int .i64 a.B], .int .i64 200])
                rw [← HLX.out]
              · show World.ownsRow _ _ _ _ (.slice vb xb.length vc) xb.length (bv xb)
                rw [← HLX.out]; exact HO8.out
            | false =>
              have HPT : Bx (T = (a, 200)) := ⟨HP3.out r a HF.out hm hh⟩
              have c3 : w5.cell? ⟨wr.heap.size, 3, none⟩ = some (.bool false) := by rw [cell_of_row w5 _ 3 _ _ (0, 0) hR5, hh]; rfl
              have HTR : Bx (w5.there (w.heap.size + 1) 0 6) := ⟨there_row hZ5⟩
              have HST : Bx ((w5.setCells (w.heap.size + 1) 0 (askV a none 0 0).toList).heap[w.heap.size + 1]? = some (.cells (askV a none 0 0) 24 (0, 0))) := ⟨heap_stored hZ5 rfl⟩
              have HFB : Bx (Below w.heap.size w (w5.setCells (w.heap.size + 1) 0 (askV a none 0 0).toList)) := ⟨below_setCells hBw5 _ (by omega) _ 0⟩
              have HAL := Bx.mk (askV_all a none 0 0)
              clear hm hh hX5 hR5 hZ5 hBw5 hXb5 HF HP1 HP2 HP3 HR4 HFIT
              generalize r.m = rm at *
              go_wp2_with (first
                | (refine wpList_load_row rfl 24 (.tmp 8) rfl w4.heap.size rfl 24 (askV a none 0 0) (0, 0) _ HA5.out Tryz.underlying24 rfl ask_info22 ?_)
                | (refine wpList_store_mid rfl 24 (.tmp 2) (.tmp 41) rfl (w.heap.size + 1) 0 (askV a none 0 0) rfl rfl HTR.out ask_info22 HAL.out ?_))
              refine bodyPost_ret (v := .tuple #[.agg (askV a none 0 0), .int .i64 200]) (results_ask rfl _ _ (w.heap.size + 1) (askV a none 0 0) _ rfl rfl HST.out ask_info22) rfl ?_
              rw [HPT.out]
              refine ⟨none, 0, ?_, ?_, by show Byt a.b; rw [HAB.out]; exact Byt.nil, HFB.out⟩
              · show _ = Ending.returned (.tuple #[.agg (askV a none a.b.length 0), .int .i64 200])
                rw [HAB.out]; rfl
              · show World.ownsRow _ _ _ _ (.slice none a.b.length 0) a.b.length (bv a.b)
                rw [HAB.out]; exact World.ownsRow_nil _ _ _ _
          · rw [decide_eq_false hm] at hq hne
            have HPA : Bx (T = (as0, 405)) := ⟨HP1.out r a HF.out hm⟩
            have HTR : Bx (w5.there (w.heap.size + 1) 0 6) := ⟨there_row hZ5⟩
            have HST : Bx ((w5.setCells (w.heap.size + 1) 0 askZ.toList).heap[w.heap.size + 1]? = some (.cells (askV as0 none 0 0) 24 (0, 0))) := ⟨heap_stored hZ5 rfl⟩
            have HFB : Bx (Below w.heap.size w (w5.setCells (w.heap.size + 1) 0 askZ.toList)) := ⟨below_setCells hBw5 _ (by omega) _ 0⟩
            clear hm hX5 hR5 hZ5 hBw5 hXb5 HF HP1 HP2 HP3 HR4 HFIT
            generalize r.m = rm at *
            go_wp2_with (refine wpList_store_mid rfl 24 (.tmp 2) (.tmp 34) rfl (w.heap.size + 1) 0 askZ rfl rfl HTR.out ask_info22 HZO.out ?_)
            exact bodyPost_ret (v := .tuple #[.agg (askV as0 none 0 0), .int .i64 405]) (results_ask rfl _ _ (w.heap.size + 1) (askV as0 none 0 0) _ rfl rfl HST.out ask_info22) rfl (parp_no HPA.out rfl HFB.out)
      · have hge : ¬ (k : Int) < 10 := by omega
        obtain ⟨_, _, _, hZr, hBr, _⟩ := HALL.out wr HB.out
        have HPA : Bx (T = (as0, 404)) := ⟨HP0.out (by rw [← HN.out, List.drop_eq_nil_of_le (by show 10 ≤ k; omega)]; rfl)⟩
        have HTR : Bx (wr.there (w.heap.size + 1) 0 6) := ⟨there_row hZr⟩
        have HST : Bx ((wr.setCells (w.heap.size + 1) 0 askZ.toList).heap[w.heap.size + 1]? = some (.cells (askV as0 none 0 0) 24 (0, 0))) := ⟨heap_stored hZr rfl⟩
        have HFB : Bx (Below w.heap.size w (wr.setCells (w.heap.size + 1) 0 askZ.toList)) := ⟨below_setCells hBr _ (by omega) _ 0⟩
        clear hZr hBr HB HN HIX
        go_wp2_with (refine wpList_store_mid rfl 24 (.tmp 2) (.tmp 43) rfl (w.heap.size + 1) 0 askZ rfl rfl HTR.out ask_info22 HZO.out ?_)
        exact bodyPost_ret (v := .tuple #[.agg (askV as0 none 0 0), .int .i64 404]) (results_ask rfl _ _ (w.heap.size + 1) (askV as0 none 0 0) _ rfl rfl HST.out ask_info22) rfl (parp_no HPA.out rfl HFB.out)
end Go.Proofs.YtpfijaojgeceeaaGreatDoor
namespace Go.Proofs.YtpfijaojgeceeaaGreatDoor
open Go.RowKit
set_option linter.unusedVariables false

def lvX : WX := ⟨mGet, ⟨#[47, 106, 111, 98, 115, 47, 55]⟩, ⟨#[]⟩, []⟩
def lvA : As := ⟨5, ⟨#[]⟩, ⟨#[]⟩, [], 7, 0⟩
set_option maxRecDepth 100000 in
theorem live23 : rtPar lvX = (lvA, 200) := by rw [rt_par]; kernel_rfl
set_option maxRecDepth 100000 in
set_option maxHeartbeats 1000000 in
theorem rtlives_any (w : World) (hE : RtE w) :
    Calls Tryz.prog 8 #[] w fun e w' => e = .returned (.bool true) ∧ Below w.heap.size w w' := by
  have hp := parse_rt lvX none 0 0 w ⟨rfl, Byt.nil, Nat.le_refl _, Nat.zero_le _, fun _ => rfl, fun h => absurd h (Nat.lt_irrefl _)⟩ (by decide +kernel) (by decide) hE
  rw [live23] at hp
  have HP : Bx (Calls Tryz.prog 9 #[.agg #[.string ⟨#[71, 69, 84]⟩, .string ⟨#[47, 106, 111, 98, 115, 47, 55]⟩, .string ⟨#[]⟩, .slice none 0 0]] w (ParP (lvA, 200) w)) := ⟨hp⟩
  clear hp hE
  go_enter Tryz.func8, Tryz.ntmps8
  go_wp2_with fail
  refine HP.out.mono ?_
  rintro e w2 ⟨ab, cap, rfl, _, _, hb2⟩
  have HB : Bx (Below w.heap.size w (w2.alloc (.cells #[.int .i64 5, .string ⟨#[]⟩, .string ⟨#[]⟩, .slice ab ([] : List Int).length cap, .int .i64 7, .int .i64 0] 24))) := ⟨bstep hb2 ((Below.refl _ _).alloc (Nat.le_refl _) _)⟩
  unfold lvA
  go_wp2
  go_ret
  exact ⟨rfl, HB.out⟩
end Go.Proofs.YtpfijaojgeceeaaGreatDoor
