/- For every list of calls, every int and every further list of calls the law DiskOff returns true and all read as they did (P9.2): behind so many steps the power goes off, then nothing is done, and behind a crash that keeps all just what was done is there. No condition. -/
import Derived.Test.YtihmfnndnjhpbaaRows
import Derived.Test.YtihmfnndnjhpbaaOff9
import Derived.WalkKit
import Derived.ProofKit
import Derived.OpenShut
import Derived.ShutString
import Derived.ChangeOld
import Derived.Below
namespace Go.Proofs.Ytihmfnndnjhpbaa.diskOff
open Go.ChangeShapes Go.WideShapes Go.ChangeAt Go.RowKit
open Go.ChangeMaps (open_string shut_string)
set_option linter.unusedVariables false

theorem own : ownKnob Try.prog.godebug = none := by kernel_rfl
theorem laidOut : laidOutB Try.prog = true := by kernel_rfl

/-- the two disks while the law goes on -/
structure Two (w wr : World) (g gx : Nat) (own ownx : Nat → Prop) (sd sx : DS) : Prop where
  low : Below w.heap.size w wr
  d : Dsk wr g own sd
  x : Dsk wr gx ownx sx
  dw : ∀ k, own k → w.heap.size ≤ k
  xw : ∀ k, ownx k → w.heap.size ≤ k
  dj : ∀ k, own k → ¬ ownx k
theorem Two.callD {w wr w1 : World} {g gx : Nat} {own ownx own1 : Nat → Prop} {sd sx sd1 : DS} (h : Two w wr g gx own ownx sd sx) (hd : Dsk w1 g own1 sd1) (hdid : Did own wr w1 own1) : Two w w1 g gx own1 ownx sd1 sx :=
  ⟨h.low.trans (hdid.kept.low h.dw h.low.size), hd, h.x.kept hdid.kept (fun k hx hk => h.dj k hk hx), hdid.up h.dw h.low.size, h.xw, fun k hk hx => by
    rcases hdid.new k hk with h1 | h1
    · exact h.dj k h1 hx
    · have := h.x.lt k hx; omega⟩
theorem Two.callX {w wr w1 : World} {g gx : Nat} {own ownx own1 : Nat → Prop} {sd sx sx1 : DS} (h : Two w wr g gx own ownx sd sx) (hx : Dsk w1 gx own1 sx1) (hdid : Did ownx wr w1 own1) : Two w w1 g gx own own1 sd sx1 :=
  ⟨h.low.trans (hdid.kept.low h.xw h.low.size), h.d.kept hdid.kept (fun k hd hk => h.dj k hd hk), hx, h.dw, hdid.up h.xw h.low.size, fun k hd hk => by
    rcases hdid.new k hk with h1 | h1
    · exact h.dj k hd h1
    · have := h.d.lt k hd; omega⟩
theorem Two.step {w wr w1 : World} {g gx : Nat} {own ownx : Nat → Prop} {sd sx : DS} (h : Two w wr g gx own ownx sd sx) (hb : Below wr.heap.size wr w1) : Two w w1 g gx own ownx sd sx :=
  ⟨bstep h.low hb, h.d.below hb, h.x.below hb, h.dw, h.xw, h.dj⟩
theorem Two.drewN {w wr : World} {g gx : Nat} {own ownx : Nat → Prop} {sd sx : DS} (h : Two w wr g gx own ownx sd sx) (q : Nat) : Two w (wr.drewN q) g gx own ownx sd sx :=
  ⟨below_drewN h.low q, h.d.drewN q, h.x.drewN q, h.dw, h.xw, h.dj⟩
theorem Two.other {w wr w1 : World} {g gx G : Nat} {own ownx : Nat → Prop} {sd sx : DS} (h : Two w wr g gx own ownx sd sx) (hk : Kept (fun k => k = G) wr w1) (hG : ¬ own G ∧ ¬ ownx G) (hw : w.heap.size ≤ G) : Two w w1 g gx own ownx sd sx :=
  ⟨h.low.trans (hk.low (fun k e => by have e : k = G := e; omega) h.low.size), h.d.kept hk (fun k hk e => by have e : k = G := e; rw [e] at hk; exact hG.1 hk), h.x.kept hk (fun k hk e => by have e : k = G := e; rw [e] at hk; exact hG.2 hk), h.dw, h.xw, h.dj⟩

set_option maxRecDepth 100000 in
set_option maxHeartbeats 1000000 in
theorem walk (a0 : Option Addr) (len0 cap0 : Nat) (L : List DoM) (n : Int) (a2 : Option Addr) (len2 cap2 : Nat) (M : List DoM) (w : World) (hL : Dos w a0 len0 cap0 L) (hn : I64 n) (hM : Dos w a2 len2 cap2 M) :
    Calls Try.prog 6 #[.slice a0 len0 cap0, .int .i64 n, .slice a2 len2 cap2] w fun e w' => e = .returned (.bool true) ∧ Below w.heap.size w w' := by
  go_enter Try.func6, Try.ntmps6
  go_wp2_with fail
  refine (made_any a0 len0 cap0 L _ hL).mono ?_
  rintro e w1 ⟨g, own, rfl, hD, hown, hb1⟩
  have hL1 := hL.below hb1
  have hM1 := hM.below hb1
  go_wp2_with fail
  refine (made_any a0 len0 cap0 L _ hL1).mono ?_
  rintro e w2 ⟨gx, ownx, rfl, hX, hownx, hb2⟩
  obtain ⟨h8, hOl⟩ := mdS_eight (L.take 150)
  have hO : (mdS (L.take 150)).O.length ≤ 150 := by rw [List.length_take] at hOl; omega
  generalize mdS (L.take 150) = s at hD hX h8 hO
  have hs1 := hb1.size
  have hT0 : Two w w2 g gx own ownx s s := ⟨bstep hb1 hb2, hD.below hb2, hX, hown, fun k hk => Nat.le_trans hs1 (hownx k hk), fun k hd hx => by have h1 := hD.lt k hd; have h2 := hownx k hx; omega⟩
  have hM2 := hM1.below hb2
  clear hL hL1 hM1 hD hX hown hownx hb1 hb2 hs1 hOl
  go_wp2_with fail
  refine (least_any n 0 200 _).mono ?_
  rintro e w' ⟨rfl, rfl⟩
  have hnb := least_bd n 0 200 (by decide)
  generalize leastV n 0 200 = nn at hnb ⊢
  obtain ⟨r0, rfl⟩ : ∃ r0 : Nat, nn = r0 := ⟨nn.toNat, by omega⟩
  go_wp2_with fail
  refine (few9_any a2 len2 cap2 M _ hM2).mono ?_
  rintro e w' ⟨⟨m, rfl, hm, hM3⟩, rfl⟩
  have HMW : Bx (Dos w a2 m cap2 (M.take 150)) := ⟨by
    by_cases hlen : 150 ≤ len2
    · have h1 := hM.take 150 hlen
      have e1 := hM3.len_eq
      have e2 := h1.len_eq
      rw [← e1, e2]; exact h1
    · have e0 : M.take 150 = M := List.take_of_length_le (by rw [hM.len_eq]; omega)
      have e1 := hM3.len_eq
      rw [e0] at e1 ⊢
      rw [← e1, hM.len_eq]; exact hM⟩
  generalize M.take 150 = T at HMW
  have hcm := hM3.cap_le
  have hcc := hM3.le_cap
  unfold maxLen at hcm
  clear hM hM2 hM3
  go_wp2_with fail
  refine (arm_any g own s r0 _ hT0.d (by omega)).mono ?_
  rintro e w3 ⟨rfl, hD3, hkp3⟩
  have e1 : s.arE r0 = 0 := by unfold DS.arE; rw [h8.off]; simp
  have e2 : s.ar r0 = ⟨s.F, s.O, true, (r0 : Int), false⟩ := by
    unfold DS.ar
    rw [if_neg (by rw [h8.off]; decide), if_neg (by omega)]
    show (⟨s.F, s.O, true, (r0 : Int), s.off⟩ : DS) = _
    rw [h8.off]
  rw [e1]
  have hT3 := hT0.callD hD3 (Did.same hkp3)
  rw [e2] at hT3
  have hR0 : ∃ own ownx sd sx, Two w w3 g gx own ownx sd sx ∧ Pair sd sx (r0 - 0) ∧ sx.O.length ≤ 150 + 0 := ⟨own, ownx, _, s, hT3, ⟨rfl, h8⟩, by omega⟩
  clear hD3 hkp3 hT0 hT3 e1 e2 h8 hO
  go_wp2
  go_loopw [9, 10] (fun dn i wr => ∃ j c : Nat, j ≤ m ∧ c ≤ r0 ∧ c ≤ j ∧ i = .int .i64 j ∧ dn = .int .i64 c ∧ ∃ own ownx sd sx, Two w wr g gx own ownx sd sx ∧ Pair sd sx (r0 - c) ∧ sx.O.length ≤ 150 + j) (fun _ i _ => m - (intOf i).toNat)
  case atStart => exact ⟨0, 0, Nat.zero_le _, Nat.zero_le _, Nat.le_refl _, rfl, rfl, hR0⟩
  case round =>
    clear hR0 own ownx
    obtain ⟨j, c, hj, hc, hcj, rfl, rfl, own, ownx, sd, sx, hT, hP, hOl⟩ := hrel
    by_cases hlt : j < m
    · have hjI : (j : Int) < (m : Int) := by omega
      obtain ⟨b, off, b2, l2, c2, b3, l3, c3, rfl, k0, k1, k2, k3, hV⟩ := HMW.out.at hT.low j hlt
      have hbt := hV.b
      generalize T.getD j doZ = k at k0 k1 hV hbt
      obtain ⟨kd, x, bb, K⟩ := k
      dsimp only at k0 k1 hbt
      clear hV k3
      have hlb := least_bd x 0 7 (by decide)
      go_upto_region 11 with fail
      go_quiet ((go_at_call 20; exact Calls.quiet_of_same (least_q x 0 7 _ _)))
      have k2q : (wr.drewN nq).cell? ⟨b, off + j * 4 + 2, none⟩ = some (.slice b2 l2 c2) := k2
      replace hT := hT.drewN nq
      generalize wr.drewN nq = wq at hT k2q ⊢
      clear k0 k1 k2
      generalize leastV x 0 7 = x at hlb ⊢
      by_cases h0 : kd = 0
      · subst h0
        have hbq := hbt.below hT.low
        have HF : Bx _ := ⟨far_bts hbt hT.dw⟩
        go_wp2_with fail
        refine (cut_any b2 l2 c2 64 bb _ hbq (by decide)).mono ?_
        rintro e w' ⟨⟨mm, rfl, hmm⟩, rfl⟩
        have hmle : mm ≤ l2 := by
          have e1 := hmm.len_eq
          have e2 := hbq.len_eq
          rw [List.length_take] at e1
          omega
        have h64 := take64 bb
        have hOd : sd.O.length ≤ 1000000 := by rw [hP.eq]; show sx.O.length ≤ _; omega
        go_wp2_with fail
        refine (write_any g own sd x b2 mm c2 (bb.take 64) _ hT.d hmm (fun hp => HF.out (by omega)) hOd).mono ?_
        rintro e w4 ⟨rfl, own4, hD4, hdid⟩
        have hT4 := hT.callD hD4 hdid
        by_cases hr : c < r0
        · obtain ⟨r, hr1⟩ : ∃ r, r0 - c = r + 1 := ⟨r0 - c - 1, by omega⟩
          have HR1 : Bx (r0 - c = r + 1) := ⟨hr1⟩
          rw [hr1] at hP
          obtain ⟨e1, hP4⟩ := hP.wr1 x (bb.take 64) hlb.1 hlb.2 h64
          rw [e1]
          have hrI : (c : Int) < (r0 : Int) := by omega
          have hb4 := hbt.below hT4.low
          have HF4 : Bx _ := ⟨far_bts hbt hT4.xw⟩
          have k24 : w4.cell? ⟨b, off + j * 4 + 2, none⟩ = some (.slice b2 l2 c2) := by
            have hbw : b < w.heap.size := by
              obtain ⟨b', o', e9, hl9, _⟩ := HMW.out.spot (by omega)
              cases e9; exact hl9
            exact (hT4.low.cell (p := ⟨b, off + j * 4 + 2, none⟩) hbw).trans ((hT.low.cell (p := ⟨b, off + j * 4 + 2, none⟩) hbw).symm.trans k2q)
          clear hT hD4 hdid hmm hbq HF k2q e1 hP hr1
          generalize sd.wr x (bb.take 64) = sd4 at hT4 hP4
          go_wp2_with fail
          refine (cut_any b2 l2 c2 64 bb _ hb4 (by decide)).mono ?_
          rintro e w' ⟨⟨mm4, rfl, hmm4⟩, rfl⟩
          have hmle4 : mm4 ≤ l2 := by
            have e1 := hmm4.len_eq
            have e2 := hb4.len_eq
            rw [List.length_take] at e1
            omega
          go_wp2_with fail
          refine (write_any gx ownx sx x b2 mm4 c2 (bb.take 64) _ hT4.x hmm4 (fun hp => HF4.out (by omega)) (by omega)).mono ?_
          rintro e w5 ⟨rfl, own5, hX5, hdid5⟩
          have hT5 := hT4.callX hX5 hdid5
          have hOl5 : (sx.wr x (bb.take 64)).O.length ≤ 150 + (j + 1) := by have := wr_open sx x (bb.take 64); omega
          generalize sx.wrE x (bb.take 64) = q5
          clear hT4 hX5 hdid5 hmm4 hb4 HF4 k24 hbt
          go_wp2
          go_roundw
          case rel => exact ⟨j + 1, c + 1, by omega, by omega, by omega, by go_num, by go_num, own4, own5, _, _, hT5, by rw [show r0 - (c + 1) = r from by have := HR1.out; omega]; exact hP4, hOl5⟩
          case measure => simp [intOf]; omega
        · have hc0 : r0 - c = 0 := by omega
          rw [hc0] at hP
          obtain ⟨e1, e2⟩ := hP.wr0 x (bb.take 64) hlb.1 hlb.2 h64
          rw [e1]
          rw [e2] at hT4
          have hrI : ¬ (c : Int) < (r0 : Int) := by omega
          have hE8 := hP.e8
          clear hT hD4 hdid hmm hbq HF k2q e1 e2 hP hc0 hbt hOd sd
          obtain ⟨sd, hsd⟩ : ∃ sd : DS, sd = ⟨sx.F, sx.O, true, 0, true⟩ := ⟨_, rfl⟩
          rw [← hsd] at hT4
          have hFE : sd.F = sx.F := by rw [hsd]
          have hOE : sd.O = sx.O := by rw [hsd]
          have hOF : sd.off = true := by rw [hsd]
          clear hsd own
          obtain ⟨own, hoo⟩ : ∃ o, o = own4 := ⟨_, rfl⟩
          subst hoo
          have hT := hT4
          clear hT4
          go_wp2_with fail
          refine (off_any g own sd _ hT.d).mono ?_
          rintro e w' ⟨rfl, rfl⟩
          rw [hOF]
          have hop : sd.O.length ≤ 1000000 := by rw [hOE]; omega
          have hO2 : sx.O.length = sd.O.length := by rw [hOE]
          have hRD : sd.rdE 0 = 14 := by
            unfold DS.rdE
            have e : (decide ((0 : Int) ≤ 0) && decide ((0 : Int) < (sd.F.length : Int))) = true := by have := hT.d.ok.n1; simp; omega
            rw [e, hOF]; rfl
          have HEND : Bx ((sd.cr (List.replicate sd.O.length true)).now = sx.now) := ⟨pair_end hFE hOE⟩
          have HN8 : Bx ((sd.cr (List.replicate sd.O.length true)).F.length = 8) := ⟨by show (app sd.F _).length = 8; rw [app_len, hFE]; exact hE8.n⟩
          have HE8 : Bx _ := ⟨hE8⟩
          clear hOE hFE hE8 hOl
          go_wp2_with fail
          refine (read_any g own sd 0 _ hT.d).mono ?_
          rintro e wt1 ⟨v1, rfl, hown1, hb1⟩
          replace hT := hT.step hb1
          clear hown1 hb1
          rw [hRD]
          clear hRD
          go_wp2_with fail
          refine (off_any g own sd _ hT.d).mono ?_
          rintro e w' ⟨rfl, rfl⟩
          rw [hOF]
          clear hOF
          go_wp2_with fail
          refine (open_any g own sd _ hT.d).mono ?_
          rintro e w' ⟨rfl, rfl⟩
          obtain ⟨mo, hmo⟩ : ∃ mo, mo = sd.O.length := ⟨_, rfl⟩
          have HMO : Bx (mo = sd.O.length) := ⟨hmo⟩
          rw [← hmo] at hop hO2 HEND HN8 ⊢
          clear hmo
          have HLD : Bx (∀ k, own k → k < wt1.heap.size) := ⟨hT.d.lt⟩
          have HLX : Bx (∀ k, ownx k → k < wt1.heap.size) := ⟨hT.x.lt⟩
          have HSZ : Bx (w.heap.size ≤ wt1.heap.size) := ⟨hT.low.size⟩
          go_wp2_with (refine wpList_make_bools rfl (.tmp 119) (.tmp 119) rfl mo rfl rfl hop ?_; intro wt2 G hG hrG hbG)
          replace hT := hT.step hbG.out
          have HNG : Bx (¬ own G ∧ ¬ ownx G) := ⟨⟨fun hh => by have h1 := HLD.out G hh; have h2 := hG.out; omega, fun hh => by have h1 := HLX.out G hh; have h2 := hG.out; omega⟩⟩
          have HGW : Bx (w.heap.size ≤ G) := ⟨by have h1 := HSZ.out; have h2 := hG.out; omega⟩
          clear hG hbG HLD HLX HSZ
          go_wp2
          go_loopw [17] (fun i wr => ∃ t : Nat, t ≤ mo ∧ i = .int .i64 t ∧ Two w wr g gx own ownx sd sx ∧ wr.heap[G]? = some (.cells (flC mo t).toArray 4 (0, 0))) (fun i _ => mo - (intOf i).toNat)
          case atStart => exact ⟨0, Nat.zero_le _, rfl, hT, hrG⟩
          case round =>
            clear hT hrG
            obtain ⟨t, ht, rfl, hT, hrG⟩ := hrel
            by_cases htm : t < mo
            · have htI : (t : Int) < (mo : Int) := by omega
              have hcl : wr.cell? ⟨G, t, none⟩ = some (.bool (decide (t < t))) := by rw [cell_of_row _ _ t _ _ (0, 0) hrG, List.getElem?_toArray]; exact flC_get mo t t htm
              have hfr := frozen_of_row _ _ t _ _ hrG
              have hrG2 := heap_setCell_same wr G t _ _ (.bool true) hrG
              rw [flC_set mo t htm] at hrG2
              have hT2 := hT.other (G := G) (Kept.setCell (own := fun k => k = G) (Kept.refl _ wr) (.inl rfl) t (.bool true)) HNG.out HGW.out
              have HT2 : Bx _ := ⟨hT2⟩
              have HR2 : Bx _ := ⟨hrG2⟩
              clear hT hrG hrG2 hT2
              go_wp2
              go_roundw
              case rel => exact ⟨t + 1, by omega, by go_num, HT2.out, HR2.out⟩
              case measure => simp [intOf]; omega
            · obtain rfl : t = mo := by omega
              have hBls := flC_bls hrG (by unfold maxLen; omega)
              have hfar : 0 < t → ∀ p, some (⟨G, 0, none⟩ : Addr) = some p → ¬ own p.block := fun _ p e => by cases e; exact HNG.out.1
              clear hrG
              go_wp2_with fail
              refine (open_any g own sd _ hT.d).mono ?_
              rintro e w' ⟨rfl, rfl⟩
              rw [← HMO.out]
              go_wp2_with fail
              refine (open_any gx ownx sx _ hT.x).mono ?_
              rintro e w' ⟨rfl, rfl⟩
              rw [hO2]
              go_wp2_with fail
              refine (crash_any g own sd _ t t (List.replicate t true) _ hT.d hBls hfar (by rw [← HMO.out]; exact hop)).mono ?_
              rintro e wt3 ⟨rfl, hD5, hkp5⟩
              replace hT := hT.callD hD5 (Did.same hkp5)
              clear hD5 hkp5 hBls hfar HMO hop hO2
              have hof : (sd.cr (List.replicate t true)).off = false := rfl
              generalize sd.cr (List.replicate t true) = se at hT HEND HN8 hof
              go_wp2_with fail
              refine (off_any g own se _ hT.d).mono ?_
              rintro e w' ⟨rfl, rfl⟩
              rw [hof]
              go_wp2_with fail
              refine (all_any gx ownx sx _ hT.x HE8.out.n HE8.out.off).mono ?_
              rintro e wt4 ⟨a5, c5, rfl, hX5, hb5⟩
              replace hT := hT.step hb5
              have HSX : Bx (Sxl sx.now) := ⟨app_sx hT.x.ok.f hT.x.ok.o⟩
              clear hb5
              go_wp2_with fail
              refine (all_any g own se _ hT.d HN8.out hof).mono ?_
              rintro e wt5 ⟨a6, c6, rfl, hX6, hb6⟩
              rw [HEND.out] at hX6
              replace hX5 := (hX5.below hb6).txs
              replace hX6 := hX6.txs
              have hlow := bstep hT.low hb6
              clear hb6 hT hof
              go_wp2_with fail
              refine (same9_yes a5 a6 8 c5 c6 sx.now _ hX5 hX6 HSX.out).mono ?_
              rintro e wt6 ⟨rfl, q6, hq6⟩
              have hlow6 : Below w.heap.size w wt6 := by rw [hq6]; exact below_drewN hlow q6
              clear hq6 hX5 hX6 hlow
              go_wp2_with fail
              refine (lives_any _).mono ?_
              rintro e wt7 ⟨rfl, hb7⟩
              go_wp2
              go_ret
              exact ⟨rfl, bstep hlow6 hb7⟩
      · have g0 : (kd == 0) = false := by simpa using h0
        have g0' : (kd != 0) = true := by simpa using h0
        clear h0
        by_cases h1 : kd = 1
        · subst h1
          clear g0'
          have hOd : sd.O.length ≤ 1000000 := by rw [hP.eq]; show sx.O.length ≤ _; omega
          go_wp2_with fail
          refine (sync_any g own sd _ hT.d hOd).mono ?_
          rintro e w4 ⟨rfl, hD4, hkp4⟩
          have hT4 := hT.callD hD4 (Did.same hkp4)
          by_cases hr : c < r0
          · obtain ⟨r, hr1⟩ : ∃ r, r0 - c = r + 1 := ⟨r0 - c - 1, by omega⟩
            have HR1 : Bx (r0 - c = r + 1) := ⟨hr1⟩
            rw [hr1] at hP
            obtain ⟨e1, hP4⟩ := hP.sy1
            rw [e1]
            have hrI : (c : Int) < (r0 : Int) := by omega
            clear hT hD4 hkp4 k2q e1 hP hr1 hbt
            generalize sd.sy = sd4 at hT4 hP4
            go_wp2_with fail
            refine (sync_any gx ownx sx _ hT4.x (by omega)).mono ?_
            rintro e w5 ⟨rfl, hX5, hkp5⟩
            have hT5 := hT4.callX hX5 (Did.same hkp5)
            have hOl5 : sx.sy.O.length ≤ 150 + (j + 1) := by have := sy_open sx; omega
            generalize sx.syE = q5
            clear hT4 hX5 hkp5
            go_wp2
            go_roundw
            case rel => exact ⟨j + 1, c + 1, by omega, by omega, by omega, by go_num, by go_num, own, ownx, _, _, hT5, by rw [show r0 - (c + 1) = r from by have := HR1.out; omega]; exact hP4, hOl5⟩
            case measure => simp [intOf]; omega
          · have hc0 : r0 - c = 0 := by omega
            rw [hc0] at hP
            obtain ⟨e1, e2⟩ := hP.sy0
            rw [e1]
            rw [e2] at hT4
            have hrI : ¬ (c : Int) < (r0 : Int) := by omega
            have hE8 := hP.e8
            clear hT hD4 hkp4 k2q e1 e2 hP hc0 hbt hOd sd
            obtain ⟨sd, hsd⟩ : ∃ sd : DS, sd = ⟨sx.F, sx.O, true, 0, true⟩ := ⟨_, rfl⟩
            rw [← hsd] at hT4
            have hFE : sd.F = sx.F := by rw [hsd]
            have hOE : sd.O = sx.O := by rw [hsd]
            have hOF : sd.off = true := by rw [hsd]
            clear hsd
            have hT := hT4
            clear hT4
            go_wp2_with fail
            refine (off_any g own sd _ hT.d).mono ?_
            rintro e w' ⟨rfl, rfl⟩
            rw [hOF]
            have hop : sd.O.length ≤ 1000000 := by rw [hOE]; omega
            have hO2 : sx.O.length = sd.O.length := by rw [hOE]
            have hRD : sd.rdE 0 = 14 := by
              unfold DS.rdE
              have e : (decide ((0 : Int) ≤ 0) && decide ((0 : Int) < (sd.F.length : Int))) = true := by have := hT.d.ok.n1; simp; omega
              rw [e, hOF]; rfl
            have HEND : Bx ((sd.cr (List.replicate sd.O.length true)).now = sx.now) := ⟨pair_end hFE hOE⟩
            have HN8 : Bx ((sd.cr (List.replicate sd.O.length true)).F.length = 8) := ⟨by show (app sd.F _).length = 8; rw [app_len, hFE]; exact hE8.n⟩
            have HE8 : Bx _ := ⟨hE8⟩
            clear hOE hFE hE8 hOl
            go_wp2_with fail
            refine (read_any g own sd 0 _ hT.d).mono ?_
            rintro e wt1 ⟨v1, rfl, hown1, hb1⟩
            replace hT := hT.step hb1
            clear hown1 hb1
            rw [hRD]
            clear hRD
            go_wp2_with fail
            refine (off_any g own sd _ hT.d).mono ?_
            rintro e w' ⟨rfl, rfl⟩
            rw [hOF]
            clear hOF
            go_wp2_with fail
            refine (open_any g own sd _ hT.d).mono ?_
            rintro e w' ⟨rfl, rfl⟩
            obtain ⟨mo, hmo⟩ : ∃ mo, mo = sd.O.length := ⟨_, rfl⟩
            have HMO : Bx (mo = sd.O.length) := ⟨hmo⟩
            rw [← hmo] at hop hO2 HEND HN8 ⊢
            clear hmo
            have HLD : Bx (∀ k, own k → k < wt1.heap.size) := ⟨hT.d.lt⟩
            have HLX : Bx (∀ k, ownx k → k < wt1.heap.size) := ⟨hT.x.lt⟩
            have HSZ : Bx (w.heap.size ≤ wt1.heap.size) := ⟨hT.low.size⟩
            go_wp2_with (refine wpList_make_bools rfl (.tmp 119) (.tmp 119) rfl mo rfl rfl hop ?_; intro wt2 G hG hrG hbG)
            replace hT := hT.step hbG.out
            have HNG : Bx (¬ own G ∧ ¬ ownx G) := ⟨⟨fun hh => by have h1 := HLD.out G hh; have h2 := hG.out; omega, fun hh => by have h1 := HLX.out G hh; have h2 := hG.out; omega⟩⟩
            have HGW : Bx (w.heap.size ≤ G) := ⟨by have h1 := HSZ.out; have h2 := hG.out; omega⟩
            clear hG hbG HLD HLX HSZ
            go_wp2
            go_loopw [17] (fun i wr => ∃ t : Nat, t ≤ mo ∧ i = .int .i64 t ∧ Two w wr g gx own ownx sd sx ∧ wr.heap[G]? = some (.cells (flC mo t).toArray 4 (0, 0))) (fun i _ => mo - (intOf i).toNat)
            case atStart => exact ⟨0, Nat.zero_le _, rfl, hT, hrG⟩
            case round =>
              clear hT hrG
              obtain ⟨t, ht, rfl, hT, hrG⟩ := hrel
              by_cases htm : t < mo
              · have htI : (t : Int) < (mo : Int) := by omega
                have hcl : wr.cell? ⟨G, t, none⟩ = some (.bool (decide (t < t))) := by rw [cell_of_row _ _ t _ _ (0, 0) hrG, List.getElem?_toArray]; exact flC_get mo t t htm
                have hfr := frozen_of_row _ _ t _ _ hrG
                have hrG2 := heap_setCell_same wr G t _ _ (.bool true) hrG
                rw [flC_set mo t htm] at hrG2
                have hT2 := hT.other (G := G) (Kept.setCell (own := fun k => k = G) (Kept.refl _ wr) (.inl rfl) t (.bool true)) HNG.out HGW.out
                have HT2 : Bx _ := ⟨hT2⟩
                have HR2 : Bx _ := ⟨hrG2⟩
                clear hT hrG hrG2 hT2
                go_wp2
                go_roundw
                case rel => exact ⟨t + 1, by omega, by go_num, HT2.out, HR2.out⟩
                case measure => simp [intOf]; omega
              · obtain rfl : t = mo := by omega
                have hBls := flC_bls hrG (by unfold maxLen; omega)
                have hfar : 0 < t → ∀ p, some (⟨G, 0, none⟩ : Addr) = some p → ¬ own p.block := fun _ p e => by cases e; exact HNG.out.1
                clear hrG
                go_wp2_with fail
                refine (open_any g own sd _ hT.d).mono ?_
                rintro e w' ⟨rfl, rfl⟩
                rw [← HMO.out]
                go_wp2_with fail
                refine (open_any gx ownx sx _ hT.x).mono ?_
                rintro e w' ⟨rfl, rfl⟩
                rw [hO2]
                go_wp2_with fail
                refine (crash_any g own sd _ t t (List.replicate t true) _ hT.d hBls hfar (by rw [← HMO.out]; exact hop)).mono ?_
                rintro e wt3 ⟨rfl, hD5, hkp5⟩
                replace hT := hT.callD hD5 (Did.same hkp5)
                clear hD5 hkp5 hBls hfar HMO hop hO2
                have hof : (sd.cr (List.replicate t true)).off = false := rfl
                generalize sd.cr (List.replicate t true) = se at hT HEND HN8 hof
                go_wp2_with fail
                refine (off_any g own se _ hT.d).mono ?_
                rintro e w' ⟨rfl, rfl⟩
                rw [hof]
                go_wp2_with fail
                refine (all_any gx ownx sx _ hT.x HE8.out.n HE8.out.off).mono ?_
                rintro e wt4 ⟨a5, c5, rfl, hX5, hb5⟩
                replace hT := hT.step hb5
                have HSX : Bx (Sxl sx.now) := ⟨app_sx hT.x.ok.f hT.x.ok.o⟩
                clear hb5
                go_wp2_with fail
                refine (all_any g own se _ hT.d HN8.out hof).mono ?_
                rintro e wt5 ⟨a6, c6, rfl, hX6, hb6⟩
                rw [HEND.out] at hX6
                replace hX5 := (hX5.below hb6).txs
                replace hX6 := hX6.txs
                have hlow := bstep hT.low hb6
                clear hb6 hT hof
                go_wp2_with fail
                refine (same9_yes a5 a6 8 c5 c6 sx.now _ hX5 hX6 HSX.out).mono ?_
                rintro e wt6 ⟨rfl, q6, hq6⟩
                have hlow6 : Below w.heap.size w wt6 := by rw [hq6]; exact below_drewN hlow q6
                clear hq6 hX5 hX6 hlow
                go_wp2_with fail
                refine (lives_any _).mono ?_
                rintro e wt7 ⟨rfl, hb7⟩
                go_wp2
                go_ret
                exact ⟨rfl, bstep hlow6 hb7⟩
        · have g1' : (kd != 1) = true := by simpa using h1
          clear h1 k2q hbt
          go_wp2
          go_roundw
          case rel => exact ⟨j + 1, c, by omega, hc, by omega, by go_num, rfl, own, ownx, sd, sx, hT, hP, by omega⟩
          case measure => simp [intOf]; omega
    · obtain rfl : j = m := by omega
      have hFE : sd.F = sx.F := by rw [hP.eq]
      have hOE : sd.O = sx.O := by rw [hP.eq]
      have hE8 := hP.e8
      have hOF : sd.off = false := by rw [hP.eq]
      clear hP
      have hop : sd.O.length ≤ 1000000 := by rw [hOE]; omega
      have hO2 : sx.O.length = sd.O.length := by rw [hOE]
      have hRD : sd.rdE 0 = 0 := by
        unfold DS.rdE
        have e : (decide ((0 : Int) ≤ 0) && decide ((0 : Int) < (sd.F.length : Int))) = true := by have := hT.d.ok.n1; simp; omega
        rw [e, hOF]; rfl
      have HEND : Bx ((sd.cr (List.replicate sd.O.length true)).now = sx.now) := ⟨pair_end hFE hOE⟩
      have HN8 : Bx ((sd.cr (List.replicate sd.O.length true)).F.length = 8) := ⟨by show (app sd.F _).length = 8; rw [app_len, hFE]; exact hE8.n⟩
      have HE8 : Bx _ := ⟨hE8⟩
      clear hOE hFE hE8 hOl
      go_wp2_with fail
      refine (read_any g own sd 0 _ hT.d).mono ?_
      rintro e wt1 ⟨v1, rfl, hown1, hb1⟩
      replace hT := hT.step hb1
      clear hown1 hb1
      rw [hRD]
      clear hRD
      go_wp2_with fail
      refine (off_any g own sd _ hT.d).mono ?_
      rintro e w' ⟨rfl, rfl⟩
      rw [hOF]
      clear hOF
      go_wp2_with fail
      refine (open_any g own sd _ hT.d).mono ?_
      rintro e w' ⟨rfl, rfl⟩
      obtain ⟨mo, hmo⟩ : ∃ mo, mo = sd.O.length := ⟨_, rfl⟩
      have HMO : Bx (mo = sd.O.length) := ⟨hmo⟩
      rw [← hmo] at hop hO2 HEND HN8 ⊢
      clear hmo
      have HLD : Bx (∀ k, own k → k < wt1.heap.size) := ⟨hT.d.lt⟩
      have HLX : Bx (∀ k, ownx k → k < wt1.heap.size) := ⟨hT.x.lt⟩
      have HSZ : Bx (w.heap.size ≤ wt1.heap.size) := ⟨hT.low.size⟩
      go_wp2_with (refine wpList_make_bools rfl (.tmp 119) (.tmp 119) rfl mo rfl rfl hop ?_; intro wt2 G hG hrG hbG)
      replace hT := hT.step hbG.out
      have HNG : Bx (¬ own G ∧ ¬ ownx G) := ⟨⟨fun hh => by have h1 := HLD.out G hh; have h2 := hG.out; omega, fun hh => by have h1 := HLX.out G hh; have h2 := hG.out; omega⟩⟩
      have HGW : Bx (w.heap.size ≤ G) := ⟨by have h1 := HSZ.out; have h2 := hG.out; omega⟩
      clear hG hbG HLD HLX HSZ
      go_wp2
      go_loopw [17] (fun i wr => ∃ t : Nat, t ≤ mo ∧ i = .int .i64 t ∧ Two w wr g gx own ownx sd sx ∧ wr.heap[G]? = some (.cells (flC mo t).toArray 4 (0, 0))) (fun i _ => mo - (intOf i).toNat)
      case atStart => exact ⟨0, Nat.zero_le _, rfl, hT, hrG⟩
      case round =>
        clear hT hrG
        obtain ⟨t, ht, rfl, hT, hrG⟩ := hrel
        by_cases htm : t < mo
        · have htI : (t : Int) < (mo : Int) := by omega
          have hcl : wr.cell? ⟨G, t, none⟩ = some (.bool (decide (t < t))) := by rw [cell_of_row _ _ t _ _ (0, 0) hrG, List.getElem?_toArray]; exact flC_get mo t t htm
          have hfr := frozen_of_row _ _ t _ _ hrG
          have hrG2 := heap_setCell_same wr G t _ _ (.bool true) hrG
          rw [flC_set mo t htm] at hrG2
          have hT2 := hT.other (G := G) (Kept.setCell (own := fun k => k = G) (Kept.refl _ wr) (.inl rfl) t (.bool true)) HNG.out HGW.out
          have HT2 : Bx _ := ⟨hT2⟩
          have HR2 : Bx _ := ⟨hrG2⟩
          clear hT hrG hrG2 hT2
          go_wp2
          go_roundw
          case rel => exact ⟨t + 1, by omega, by go_num, HT2.out, HR2.out⟩
          case measure => simp [intOf]; omega
        · obtain rfl : t = mo := by omega
          have hBls := flC_bls hrG (by unfold maxLen; omega)
          have hfar : 0 < t → ∀ p, some (⟨G, 0, none⟩ : Addr) = some p → ¬ own p.block := fun _ p e => by cases e; exact HNG.out.1
          clear hrG
          go_wp2_with fail
          refine (open_any g own sd _ hT.d).mono ?_
          rintro e w' ⟨rfl, rfl⟩
          rw [← HMO.out]
          go_wp2_with fail
          refine (open_any gx ownx sx _ hT.x).mono ?_
          rintro e w' ⟨rfl, rfl⟩
          rw [hO2]
          go_wp2_with fail
          refine (crash_any g own sd _ t t (List.replicate t true) _ hT.d hBls hfar (by rw [← HMO.out]; exact hop)).mono ?_
          rintro e wt3 ⟨rfl, hD5, hkp5⟩
          replace hT := hT.callD hD5 (Did.same hkp5)
          clear hD5 hkp5 hBls hfar HMO hop hO2
          have hof : (sd.cr (List.replicate t true)).off = false := rfl
          generalize sd.cr (List.replicate t true) = se at hT HEND HN8 hof
          go_wp2_with fail
          refine (off_any g own se _ hT.d).mono ?_
          rintro e w' ⟨rfl, rfl⟩
          rw [hof]
          go_wp2_with fail
          refine (all_any gx ownx sx _ hT.x HE8.out.n HE8.out.off).mono ?_
          rintro e wt4 ⟨a5, c5, rfl, hX5, hb5⟩
          replace hT := hT.step hb5
          have HSX : Bx (Sxl sx.now) := ⟨app_sx hT.x.ok.f hT.x.ok.o⟩
          clear hb5
          go_wp2_with fail
          refine (all_any g own se _ hT.d HN8.out hof).mono ?_
          rintro e wt5 ⟨a6, c6, rfl, hX6, hb6⟩
          rw [HEND.out] at hX6
          replace hX5 := (hX5.below hb6).txs
          replace hX6 := hX6.txs
          have hlow := bstep hT.low hb6
          clear hb6 hT hof
          go_wp2_with fail
          refine (same9_yes a5 a6 8 c5 c6 sx.now _ hX5 hX6 HSX.out).mono ?_
          rintro e wt6 ⟨rfl, q6, hq6⟩
          have hlow6 : Below w.heap.size w wt6 := by rw [hq6]; exact below_drewN hlow q6
          clear hq6 hX5 hX6 hlow
          go_wp2_with fail
          refine (lives_any _).mono ?_
          rintro e wt7 ⟨rfl, hb7⟩
          go_wp2
          go_ret
          exact ⟨rfl, bstep hlow6 hb7⟩

set_option maxRecDepth 100000 in
theorem lifted (os : Os) (started : os.Started) (H : Type) (enc : TypeId × Value → H) :
    ReturnsInHanded {} Try.checked os 6 .any (Rows.diskOffSpec.pre6 enc Try.prog Try.f6 Rows.diskOffRow.domain false) (Rows.diskOffSpec.post enc Try.prog Try.f6 false true false false) := by
  refine returnsInHanded_of_change (C := Try.checked) own started (by kernel_rfl) Try.func6
    (ChangeSpec.witness6 (enc := enc) (C := Try.checked) false ⟨#[], #[.slice none 0 0, .int .i64 0, .slice none 0 0], []⟩ 8 (by kernel_rfl) (by kernel_rfl) (by kernel_rfl) (by kernel_rfl)) ?_
  intro W base args ds gs before hval0 hW hcnd _
  have hval : ∀ (j : Nat) t v, Try.f6.params[j]? = some t → args[j]? = some v → Value.okWide Try.prog W .any base t v := hval0
  have hW' := hW
  obtain ⟨p, q, hA0, hV, rfl, hfz, hnd⟩ := hW
  have hA : DataW.TrodAll enc Try.prog W 0 (fun _ => true) true Try.f6.params.toList args.toList ds p := hA0
  rw [Try.params6] at hA hval
  obtain ⟨v0, vs0, d0, ds0, p0, q0, hargs, rfl, rfl, h0, r0⟩ := trodAll_cons hA
  obtain ⟨v1, vs1, d1, ds1, p1, q1, rfl, rfl, rfl, h1, r1⟩ := trodAll_cons r0
  obtain ⟨v2, vs2, d2, ds2, p2, q2, rfl, rfl, rfl, h2, r2⟩ := trodAll_cons r1
  obtain ⟨rfl, rfl, rfl⟩ := trodAll_nil r2
  obtain rfl : args = #[v0, v1, v2] := by cases args; simp_all
  obtain ⟨rfl, rfl⟩ := trodVars_none hV
  obtain ⟨a0, len0, cap0, rfl⟩ := okWide_slice Try.underlying22 (hval 0 22 v0 rfl rfl)
  obtain ⟨a2, len2, cap2, rfl⟩ := okWide_slice Try.underlying22 (hval 2 22 v2 rfl rfl)
  have k0 := h0
  have lt0 : ∀ x ∈ p0, x.block < W.heap.size := by obtain ⟨m, hm⟩ := k0; exact DataW.trod_lt m _ _ _ hm
  have k1 := h1
  have lt1 : ∀ x ∈ p1, x.block < W.heap.size := by obtain ⟨m, hm⟩ := k1; exact DataW.trod_lt m _ _ _ hm
  have k2 := h2
  have lt2 : ∀ x ∈ p2, x.block < W.heap.size := by obtain ⟨m, hm⟩ := k2; exact DataW.trod_lt m _ _ _ hm
  obtain ⟨L, hL⟩ := open_dos h0
  obtain ⟨n, rfl, hn⟩ := open_i64 (hval 1 3 v1 rfl rfl) h1
  obtain ⟨M, hM⟩ := open_dos h2
  clear hA0 hval0
  refine (walk a0 len0 cap0 L n a2 len2 cap2 M W hL hn hM).mono fun e W' ⟨he, bel⟩ => ?_
  subst he
  exact ⟨_, rfl, _, _, _, [], _, [], hW', trodAll_mk1 (shut_bool Try.underlying4 _), (trodAll_cons_mk (Below.trod laidOut (by kernel_rfl) (of_decide_eq_true (by kernel_rfl)) k0 bel lt0) (trodAll_cons_mk (Below.trod laidOut (by kernel_rfl) (of_decide_eq_true (by kernel_rfl)) k1 bel lt1) (trodAll_cons_mk (Below.trod laidOut (by kernel_rfl) (of_decide_eq_true (by kernel_rfl)) k2 bel lt2) trodAll_mk0))), rfl, bel.frame _, fun h => by cases h⟩

theorem over : Rows.diskOffRow.holds Try.pinned (OpenSpec.ofChange Rows.diskOffSpec) :=
  OpenClaim.holds_of_wide 6 Try.f6 rfl rfl rfl rfl rfl rfl rfl ⟨rfl, rfl, rfl, rfl, rfl⟩ rfl rfl rfl rfl rfl (by kernel_rfl) Try.func6 (by kernel_rfl)
    (of_decide_eq_true (by kernel_rfl)) (by unfold Func.isWrapper; first | (rw [if_pos (by decide +kernel)]; kernel_rfl) | (rw [if_neg (by decide +kernel)]; exact ⟨rfl, rfl⟩))
    (fun os started H enc _ => lifted os started H enc)

/-- the statement -/
theorem proved : Rows.DiskOffSaid := over
end Go.Proofs.Ytihmfnndnjhpbaa.diskOff
namespace Go.Proofs.Ytihmfnndnjhpbaa
theorem diskOff_holds : Rows.DiskOffSaid := diskOff.proved
#print axioms diskOff_holds
end Go.Proofs.Ytihmfnndnjhpbaa
