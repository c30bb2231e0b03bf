/- Commit of a store. Open of a store. -/
import Derived.Test.YtjnjokbdoendkaaGreatSDo
import Derived.Test.YtjnjokbdoendkaaGreatSwp
import Derived.Test.YtjnjokbdoendkaaGreatSwa
import Derived.Test.YtjnjokbdoendkaaGreatSsd
import Derived.Carry
namespace Go.Proofs.YtjnjokbdoendkaaGreat
open Go.RowKit
set_option linter.unusedVariables false

set_option maxRecDepth 100000 in
set_option maxHeartbeats 400000 in
theorem smade_yes (gs gl : Nat) (w : World) (c0 : w.cell? ⟨gs, 0, none⟩ = some (.pointer (some ⟨gl, 0, none⟩))) :
    Calls Tryz.prog 42 #[.pointer (some ⟨gs, 0, none⟩)] w fun e w' => e = .returned (.bool true) ∧ w = w' := by
  go_enter Tryz.func42, Tryz.ntmps42
  go_wp2
  go_ret
  exact ⟨rfl, rfl⟩
set_option maxRecDepth 100000 in
theorem St.c0 {w : World} {gs gl : Nat} {q us : Int} {own : Nat → Prop} {M : List Pr} (h : St w gs gl q us own M) : w.cell? ⟨gs, 0, none⟩ = some (.pointer (some ⟨gl, 0, none⟩)) := by obtain ⟨gm, es, clock, Z, h⟩ := h; exact h.c0
set_option maxRecDepth 100000 in
theorem St.c1 {w : World} {gs gl : Nat} {q us : Int} {own : Nat → Prop} {M : List Pr} (h : St w gs gl q us own M) : w.cell? ⟨gs, 1, none⟩ = some (.int .i64 q) := by obtain ⟨gm, es, clock, Z, h⟩ := h; exact h.c1
set_option maxRecDepth 100000 in
theorem St.c3 {w : World} {gs gl : Nat} {q us : Int} {own : Nat → Prop} {M : List Pr} (h : St w gs gl q us own M) : w.cell? ⟨gs, 3, none⟩ = some (.int .i64 us) := by obtain ⟨gm, es, clock, Z, h⟩ := h; exact h.c3
set_option maxRecDepth 100000 in
set_option maxHeartbeats 400000 in
theorem used_any (gs gl : Nat) (q us : Int) (own : Nat → Prop) (M : List Pr) (w : World) (h : St w gs gl q us own M) :
    Calls Tryz.prog 28 #[.pointer (some ⟨gs, 0, none⟩)] w fun e w' => e = .returned (.int .i64 us) ∧ w = w' := by
  have H0 := Bx.mk h.c0
  have c3 := h.c3
  clear h
  go_enter Tryz.func28, Tryz.ntmps28
  go_wp2_with fail
  refine (smade_yes gs gl _ H0.out).mono ?_
  rintro e w' ⟨rfl, rfl⟩
  go_wp2
  go_ret
  exact ⟨rfl, rfl⟩
/-- what Commit answers, and makes -/
def coN (q : Int) (M : List Pr) (l : List Chg) : Bool := decide (chkL l = 0) && !(decide (0 < moM M l) && decide (q < (byM M : Int) + moM M l))
def coE (s : DS) (L : LS) (q : Int) (M : List Pr) (l : List Chg) : Int := if chkL l ≠ 0 then chkL l else if coN q M l = false then 12 else apE s L (encL l)
def coS (s : DS) (L : LS) (q : Int) (M : List Pr) (l : List Chg) : DS := if coN q M l = true then apS s L (encL l) else s
def coL (s : DS) (L : LS) (q : Int) (M : List Pr) (l : List Chg) : LS := if coN q M l = true then apL s L (encL l) else L
def coM (s : DS) (L : LS) (q : Int) (M : List Pr) (l : List Chg) : List Pr := if coN q M l = true ∧ apE s L (encL l) = 0 then doM M l else M
/-- three objects side by side -/
structure Tri (w : World) (gd gl gs : Nat) (oD oL oS : Nat → Prop) (s : DS) (L : LS) (q : Int) (M : List Pr) : Prop where
  d : Dsk w gd oD s
  l : Lg w gl oL gd L
  t : St w gs gl q (byM M : Int) oS M
  ld : ∀ k, oL k → ¬ oD k
  sd : ∀ k, oS k → ¬ oD k
  sl : ∀ k, oS k → ¬ oL k
/-- what a call leaves of the rest -/
structure Did3 (oD oL oS : Nat → Prop) (w w' : World) (pD pL pS : Nat → Prop) : Prop where
  kept : Kept (fun k => oD k ∨ oL k ∨ oS k) w w'
  n1 : ∀ k, pD k → oD k ∨ (w.heap.size ≤ k ∧ k < w'.heap.size)
  n2 : ∀ k, pL k → oL k ∨ (w.heap.size ≤ k ∧ k < w'.heap.size)
  n3 : ∀ k, pS k → oS k ∨ (w.heap.size ≤ k ∧ k < w'.heap.size)
set_option maxRecDepth 100000 in
theorem Tri.below {w w' : World} {gd gl gs : Nat} {oD oL oS : Nat → Prop} {s : DS} {L : LS} {q : Int} {M : List Pr} (h : Tri w gd gl gs oD oL oS s L q M) (hb : Below w.heap.size w w') : Tri w' gd gl gs oD oL oS s L q M :=
  ⟨h.d.below hb, h.l.below hb, h.t.below hb, h.ld, h.sd, h.sl⟩
set_option maxRecDepth 100000 in
theorem Did3.of_below {oD oL oS : Nat → Prop} {w w' : World} (hb : Below w.heap.size w w') : Did3 oD oL oS w w' oD oL oS := ⟨Kept.of_below hb, fun _ h => .inl h, fun _ h => .inl h, fun _ h => .inl h⟩
/-- the answer's shape -/
def CMP (s : DS) (L : LS) (q : Int) (M : List Pr) (l : List Chg) (gd gl gs : Nat) (oD oL oS : Nat → Prop) (w w' : World) : Prop :=
  ∃ pD pL pS, Tri w' gd gl gs pD pL pS (coS s L q M l) (coL s L q M l) q (coM s L q M l) ∧ Did3 oD oL oS w w' pD pL pS
set_option maxRecDepth 100000 in
theorem CMP.no {s : DS} {L : LS} {q : Int} {M : List Pr} {l : List Chg} {gd gl gs : Nat} {oD oL oS : Nat → Prop} {w w' : World} (h : Tri w gd gl gs oD oL oS s L q M) (hb : Below w.heap.size w w') (hn : coN q M l = false) : CMP s L q M l gd gl gs oD oL oS w w' := by
  refine ⟨oD, oL, oS, ?_, Did3.of_below hb⟩
  have e1 : coS s L q M l = s := by unfold coS; rw [hn]; rfl
  have e2 : coL s L q M l = L := by unfold coL; rw [hn]; rfl
  have e3 : coM s L q M l = M := by unfold coM; rw [hn]; rfl
  rw [e1, e2, e3]; exact h.below hb
set_option maxRecDepth 100000 in
/-- behind the log's own answer -/
theorem CMP.app {s : DS} {L : LS} {q : Int} {M : List Pr} {l : List Chg} {gd gl gs : Nat} {oD oL oS : Nat → Prop} {w w3 w4 : World} (h : Tri w gd gl gs oD oL oS s L q M) (hb : Below w.heap.size w w3) (hA : APP s L (encL l) gl gd oD oL w3 w4) :
    ∃ pD pL, Dsk w4 gd pD (apS s L (encL l)) ∧ Lg w4 gl pL gd (apL s L (encL l)) ∧ St w4 gs gl q (byM M : Int) oS M ∧ (∀ k, pL k → ¬ pD k) ∧ (∀ k, oS k → ¬ pD k) ∧ (∀ k, oS k → ¬ pL k) ∧ Did3 oD oL oS w w4 pD pL oS ∧ Kept (fun k => oD k ∨ oL k) w3 w4 := by
  obtain ⟨pD, pL, hD, hL, hd⟩ := hA
  have hs := hb.size
  have hs4 := hd.kept.size
  have hlt : ∀ k, oS k → k < w.heap.size := h.t.lt
  refine ⟨pD, pL, hD, hL, (h.t.below hb).kept hd.kept (fun k hk ho => by rcases ho with h1 | h1; exact h.sd k hk h1; exact h.sl k hk h1), hd.dj, fun k hk hp => ?_, fun k hk hp => ?_, ⟨?_, fun k hk => ?_, fun k hk => ?_, fun k hk => .inl hk⟩, hd.kept⟩
  · rcases hd.n1 k hp with h1 | h1
    · exact h.sd k hk h1
    · have := hlt k hk; omega
  · rcases hd.n2 k hp with h1 | h1
    · exact h.sl k hk h1
    · have := hlt k hk; omega
  · exact (Kept.of_below hb).trans hd.kept (fun k hk => .inl (by rcases hk with h1 | h1; exact .inl h1; exact .inr (.inl h1)))
  · rcases hd.n1 k hk with h1 | h1
    · exact .inl h1
    · exact .inr ⟨by omega, h1.2⟩
  · rcases hd.n2 k hk with h1 | h1
    · exact .inl h1
    · exact .inr ⟨by omega, h1.2⟩
set_option maxRecDepth 100000 in
theorem CMP.er {s : DS} {L : LS} {q : Int} {M : List Pr} {l : List Chg} {gd gl gs : Nat} {oD oL oS : Nat → Prop} {w w3 w4 : World} (h : Tri w gd gl gs oD oL oS s L q M) (hb : Below w.heap.size w w3) (hA : APP s L (encL l) gl gd oD oL w3 w4) (hn : coN q M l = true) (he : apE s L (encL l) ≠ 0) : CMP s L q M l gd gl gs oD oL oS w w4 := by
  obtain ⟨pD, pL, h1, h2, h3, h4, h5, h6, h7, _⟩ := CMP.app h hb hA
  refine ⟨pD, pL, oS, ?_, h7⟩
  have e1 : coS s L q M l = apS s L (encL l) := by unfold coS; rw [if_pos hn]
  have e2 : coL s L q M l = apL s L (encL l) := by unfold coL; rw [if_pos hn]
  have e3 : coM s L q M l = M := by unfold coM; rw [if_neg (fun hh => he hh.2)]
  rw [e1, e2, e3]; exact ⟨h1, h2, h3, h4, h5, h6⟩
set_option maxRecDepth 100000 in
theorem CMP.ok {s : DS} {L : LS} {q : Int} {M : List Pr} {l : List Chg} {gd gl gs : Nat} {oD oL oS pD pL pS : Nat → Prop} {w w4 w5 : World} (h1 : Dsk w4 gd pD (apS s L (encL l))) (h2 : Lg w4 gl pL gd (apL s L (encL l))) (h4 : ∀ k, pL k → ¬ pD k) (h5 : ∀ k, oS k → ¬ pD k) (h6 : ∀ k, oS k → ¬ pL k) (h7 : Did3 oD oL oS w w4 pD pL oS)
    (hn : coN q M l = true) (he : apE s L (encL l) = 0) (hok : LOk l) (hM : MOk M) (hS : St w5 gs gl q ((byM M : Int) + moM M l) pS (doM M l)) (hd : Did oS w4 w5 pS) : CMP s L q M l gd gl gs oD oL oS w w5 := by
  have hs4 := h7.kept.size
  have hs5 := hd.kept.size
  refine ⟨pD, pL, pS, ?_, ⟨h7.kept.trans hd.kept (fun k hk => .inl (.inr (.inr hk))), fun k hk => ?_, fun k hk => ?_, fun k hk => ?_⟩⟩
  · have e1 : coS s L q M l = apS s L (encL l) := by unfold coS; rw [if_pos hn]
    have e2 : coL s L q M l = apL s L (encL l) := by unfold coL; rw [if_pos hn]
    have e3 : coM s L q M l = doM M l := by unfold coM; rw [if_pos ⟨hn, he⟩]
    rw [e1, e2, e3]
    rw [← byM_do hM.nod l hok.p] at hS
    refine ⟨h1.kept hd.kept (fun k hk ho => h5 k ho hk), h2.kept hd.kept (fun k hk ho => h6 k ho hk), hS, h4, fun k hk hp => ?_, fun k hk hp => ?_⟩
    · rcases hd.new k hk with h8 | h8
      · exact h5 k h8 hp
      · have := h1.lt k hp; omega
    · rcases hd.new k hk with h8 | h8
      · exact h6 k h8 hp
      · have := h2.lt k hp; omega
  · rcases h7.n1 k hk with h8 | h8
    · exact .inl h8
    · exact .inr ⟨h8.1, by omega⟩
  · rcases h7.n2 k hk with h8 | h8
    · exact .inl h8
    · exact .inr ⟨h8.1, by omega⟩
  · rcases hd.new k hk with h8 | h8
    · exact .inl h8
    · exact .inr ⟨by omega, h8.2⟩
set_option maxRecDepth 100000 in
theorem coN_bad {q : Int} {M : List Pr} {l : List Chg} (h : chkL l ≠ 0) : coN q M l = false := by unfold coN; simp [h]
set_option maxRecDepth 100000 in
theorem coE_bad {s : DS} {L : LS} {q : Int} {M : List Pr} {l : List Chg} (h : chkL l ≠ 0) : coE s L q M l = chkL l := by unfold coE; rw [if_pos h]
set_option maxRecDepth 100000 in
theorem coE_q {s : DS} {L : LS} {q : Int} {M : List Pr} {l : List Chg} (h : chkL l = 0) (hn : coN q M l = false) : coE s L q M l = 12 := by unfold coE; rw [if_neg (by simp [h]), if_pos hn]
set_option maxRecDepth 100000 in
theorem coE_a {s : DS} {L : LS} {q : Int} {M : List Pr} {l : List Chg} (h : chkL l = 0) (hn : coN q M l = true) : coE s L q M l = apE s L (encL l) := by unfold coE; rw [if_neg (by simp [h]), if_neg (by simp [hn])]
set_option maxRecDepth 100000 in
set_option maxHeartbeats 4000000 in
set_option maxRecDepth 100000 in
theorem commit_any (gd gl gs : Nat) (oD oL oS : Nat → Prop) (s : DS) (L : LS) (q : Int) (M : List Pr) (B : Nat → Prop) (ao : Option Addr) (len cap : Nat) (l : List Chg) (w : World) (hT : Tri w gd gl gs oD oL oS s L q M) (h : CT B w ao len cap l) (hB : ∀ k, B k → ¬ oD k ∧ ¬ oL k ∧ ¬ oS k) (hks : ∀ c ∈ l, c.key.size ≤ 9223372036854775807) (hO : s.O.length ≤ 900000) (hu : byM M ≤ 1000000000000) :
    Calls Tryz.prog 15 #[.pointer (some ⟨gs, 0, none⟩), .slice ao len cap] w fun e w' => e = .returned (.int .i64 (coE s L q M l)) ∧ CMP s L q M l gd gl gs oD oL oS w w' := by
  have HT := Bx.mk hT
  have HL := Bx.mk h
  have HB := Bx.mk hB
  have HKS := Bx.mk hks
  have HLEN : Bx (l.length = len) := ⟨h.len_eq⟩
  have H0 := Bx.mk hT.t.c0
  have hcm := Nat.le_trans h.le_cap h.cap_le
  unfold maxLen at hcm
  clear hT h hB hks
  go_enter Tryz.func15, Tryz.ntmps15
  go_wp2_with fail
  refine (smade_yes gs gl _ H0.out).mono ?_
  rintro e w1 ⟨rfl, rfl⟩
  go_wp2_with fail
  refine (encode_any B ao len cap l _ HL.out HKS.out).mono ?_
  rintro e w2 ⟨v2, rfl, hown2, hb2⟩
  by_cases hY : chkL l = 0
  · have HOK := Bx.mk (chkL_ok hY)
    have HER : Bx (encR l = encL l) := ⟨by unfold encR; rw [if_pos hY]⟩
    have hlen : len ≤ 16 := by have := HOK.out.n2; rw [HLEN.out] at this; exact this
    rw [HER.out] at hown2
    have HEB : Byt (encL l) := by
      unfold encL
      refine Byt.append (varL_byt _ (by omega) (by have := HOK.out.n2; omega)) (flatC_byt fun c hc => ?_)
      obtain ⟨i, hi, e⟩ := List.getElem_of_mem hc
      obtain ⟨_, _, ai, ni, ci, _, _, _, _, _, _, hbt, _⟩ := HL.out.chg i (by rw [← HLEN.out]; exact hi)
      rw [e] at hbt
      have h1 := hbt.len_eq
      have h2 := Nat.le_trans hbt.le_cap hbt.cap_le
      unfold maxLen at h2
      have h3 := HKS.out c hc
      exact ⟨hbt.byt, by omega, by omega⟩
    obtain ⟨a2, c2, rfl, hm2⟩ := Bts.of_owns hown2 HEB
    have HM2 := Bx.mk hm2
    have HN2 : Bx (∀ p, a2 = some p → w.heap.size ≤ p.block) := ⟨fun p e => (own_ge hown2 p e).1⟩
    have HB2 := Bx.mk hb2
    have HYY : Bx (chkL l = 0) := ⟨hY⟩
    rw [hY]
    have hmb := moP_bd HT.out.t.mo HOK.out.c len (by omega)
    rw [moP_all M l len (by rw [HLEN.out]; exact Nat.le_refl _)] at hmb
    clear hown2 hm2 hb2 hY HEB
    go_wp2_with fail
    refine (more_any gs gl q _ oS M B ao len cap l _ (HT.out.t.below HB2.out) (HL.out.below HB2.out) HOK.out.c hlen).mono ?_
    rintro e w3 ⟨rfl, hb3⟩
    have HB3 : Bx (Below w.heap.size w w3) := ⟨bstep HB2.out hb3⟩
    have HM3 : Bx (Bts w3 a2 (encL l).length c2 (encL l)) := ⟨HM2.out.below hb3⟩
    have d3 := (HT.out.t.below HB3.out).c3
    have d1 := (HT.out.t.below HB3.out).c1
    have hw : IntKind.i64.wrap ((byM M : Int) + moM M l) = (byM M : Int) + moM M l := by rw [IntWalk.i64_in _ (by omega)]
    have HCN : Bx (coN q M l = !(decide (0 < moM M l) && decide (q < (byM M : Int) + moM M l))) := ⟨by unfold coN; simp [HYY.out]⟩
    obtain ⟨mo, HMO⟩ : ∃ mo, Bx (moM M l = mo) := ⟨_, ⟨rfl⟩⟩
    rw [HMO.out] at hw hmb HCN ⊢
    clear hb3 HM2
    by_cases hq : 0 < mo ∧ q < (byM M : Int) + mo
    · have HN : Bx (coN q M l = false) := ⟨by rw [HCN.out]; simp [hq.1, hq.2]⟩
      have g1 : decide (mo > 0) = true := by simp; omega
      have g2 : decide ((byM M : Int) + mo > q) = true := by simp; omega
      have HF : Bx (∀ k, CMP s L q M l gd gl gs oD oL oS w (w3.drewN k)) := ⟨fun k => CMP.no HT.out (below_drewN HB3.out k) HN.out⟩
      clear hq
      go_wp2_with fail
      go_quiet (fail)
      have hf := Bx.mk (HF.out nq)
      go_wp2_with fail
      go_ret
      exact ⟨ret_int (coE_q HYY.out HN.out).symm, hf.out⟩
    · have HN : Bx (coN q M l = true) := ⟨by rw [HCN.out]; simp; omega⟩
      by_cases hmz : 0 < mo
      · have g1 : decide (mo > 0) = true := by simp; omega
        have g2 : decide ((byM M : Int) + mo > q) = false := by simp; omega
        clear hq
        go_wp2_with fail
        go_quiet (fail)
        have HBQ : Bx (Below w.heap.size w (w3.drewN nq)) := ⟨below_drewN HB3.out nq⟩
        have HMQ : Bx (Bts (w3.drewN nq) a2 (encL l).length c2 (encL l)) := ⟨HM3.out.drewN nq⟩
        have e0 : (w3.drewN nq).cell? ⟨gs, 0, none⟩ = some (.pointer (some ⟨gl, 0, none⟩)) := (HT.out.t.below HBQ.out).c0
        generalize w3.drewN nq = wq at HBQ HMQ e0 ⊢
        clear g1
        go_wp2_with fail
        refine (append_any gl gd oD oL s L a2 _ c2 (encL l) _ (HT.out.d.below HBQ.out) (HT.out.l.below HBQ.out) HMQ.out (fun hp p e ho => by have h1 := HN2.out p e; have h2 := HT.out.d.lt _ ho; omega) HT.out.ld hO).mono ?_
        rintro e w4 ⟨rfl, hA⟩
        by_cases hE : apE s L (encL l) = 0
        · obtain ⟨pD, pL, h1, h2, h3, h4, h5, h6, h7, hk4⟩ := CMP.app HT.out HBQ.out hA
          have HALL := Bx.mk (And.intro h1 (And.intro h2 (And.intro h4 (And.intro h5 (And.intro h6 h7)))))
          have HS4 := Bx.mk h3
          have HL4 : Bx (CT B w4 ao len cap l) := ⟨(HL.out.below HBQ.out).kept hk4 (fun k hk ho => by rcases ho with h8 | h8; exact (HB.out k hk).1 h8; exact (HB.out k hk).2.1 h8)⟩
          have HEE : Bx (apE s L (encL l) = 0) := ⟨hE⟩
          rw [hE]
          clear hE hA h1 h2 h3 h4 h5 h6 h7 hk4
          go_wp2_with fail
          refine (do_any gs gl q _ oS M B ao len cap l _ HS4.out HL4.out (fun k hk => (HB.out k hk).2.2) HOK.out.c hlen (by omega) (by omega)).mono ?_
          rintro e w5 ⟨rfl, pS, hS5, hd5⟩
          have HF := Bx.mk (CMP.ok HALL.out.1 HALL.out.2.1 HALL.out.2.2.1 HALL.out.2.2.2.1 HALL.out.2.2.2.2.1 HALL.out.2.2.2.2.2 HN.out HEE.out HOK.out HT.out.t.mo hS5 hd5)
          clear hS5 hd5
          go_wp2_with fail
          go_ret
          exact ⟨ret_int (by rw [coE_a HYY.out HN.out, HEE.out]), HF.out⟩
        · have HF := Bx.mk (CMP.er HT.out HBQ.out hA HN.out hE)
          have g5 : (apE s L (encL l) != 0) = true := by simp [hE]
          have HEE : Bx (coE s L q M l = apE s L (encL l)) := ⟨coE_a HYY.out HN.out⟩
          obtain ⟨Y, HYE⟩ : ∃ Y, Bx (apE s L (encL l) = Y) := ⟨_, ⟨rfl⟩⟩
          rw [HYE.out] at g5 ⊢
          clear hE hA
          go_wp2_with fail
          go_ret
          exact ⟨ret_int (by rw [HEE.out, HYE.out]), HF.out⟩
      · have g1 : decide (mo > 0) = false := by simp; omega
        clear hq
        go_wp2_with fail
        go_quiet (fail)
        have HBQ : Bx (Below w.heap.size w (w3.drewN nq)) := ⟨below_drewN HB3.out nq⟩
        have HMQ : Bx (Bts (w3.drewN nq) a2 (encL l).length c2 (encL l)) := ⟨HM3.out.drewN nq⟩
        have e0 : (w3.drewN nq).cell? ⟨gs, 0, none⟩ = some (.pointer (some ⟨gl, 0, none⟩)) := (HT.out.t.below HBQ.out).c0
        generalize w3.drewN nq = wq at HBQ HMQ e0 ⊢
        clear g1
        go_wp2_with fail
        refine (append_any gl gd oD oL s L a2 _ c2 (encL l) _ (HT.out.d.below HBQ.out) (HT.out.l.below HBQ.out) HMQ.out (fun hp p e ho => by have h1 := HN2.out p e; have h2 := HT.out.d.lt _ ho; omega) HT.out.ld hO).mono ?_
        rintro e w4 ⟨rfl, hA⟩
        by_cases hE : apE s L (encL l) = 0
        · obtain ⟨pD, pL, h1, h2, h3, h4, h5, h6, h7, hk4⟩ := CMP.app HT.out HBQ.out hA
          have HALL := Bx.mk (And.intro h1 (And.intro h2 (And.intro h4 (And.intro h5 (And.intro h6 h7)))))
          have HS4 := Bx.mk h3
          have HL4 : Bx (CT B w4 ao len cap l) := ⟨(HL.out.below HBQ.out).kept hk4 (fun k hk ho => by rcases ho with h8 | h8; exact (HB.out k hk).1 h8; exact (HB.out k hk).2.1 h8)⟩
          have HEE : Bx (apE s L (encL l) = 0) := ⟨hE⟩
          rw [hE]
          clear hE hA h1 h2 h3 h4 h5 h6 h7 hk4
          go_wp2_with fail
          refine (do_any gs gl q _ oS M B ao len cap l _ HS4.out HL4.out (fun k hk => (HB.out k hk).2.2) HOK.out.c hlen (by omega) (by omega)).mono ?_
          rintro e w5 ⟨rfl, pS, hS5, hd5⟩
          have HF := Bx.mk (CMP.ok HALL.out.1 HALL.out.2.1 HALL.out.2.2.1 HALL.out.2.2.2.1 HALL.out.2.2.2.2.1 HALL.out.2.2.2.2.2 HN.out HEE.out HOK.out HT.out.t.mo hS5 hd5)
          clear hS5 hd5
          go_wp2_with fail
          go_ret
          exact ⟨ret_int (by rw [coE_a HYY.out HN.out, HEE.out]), HF.out⟩
        · have HF := Bx.mk (CMP.er HT.out HBQ.out hA HN.out hE)
          have g5 : (apE s L (encL l) != 0) = true := by simp [hE]
          have HEE : Bx (coE s L q M l = apE s L (encL l)) := ⟨coE_a HYY.out HN.out⟩
          obtain ⟨Y, HYE⟩ : ∃ Y, Bx (apE s L (encL l) = Y) := ⟨_, ⟨rfl⟩⟩
          rw [HYE.out] at g5 ⊢
          clear hE hA
          go_wp2_with fail
          go_ret
          exact ⟨ret_int (by rw [HEE.out, HYE.out]), HF.out⟩
  · have HN : Bx (coN q M l = false) := ⟨coN_bad hY⟩
    have HE : Bx (coE s L q M l = chkL l) := ⟨coE_bad hY⟩
    have g2 : (chkL l != 0) = true := by simp [hY]
    have HF := Bx.mk (CMP.no (l := l) HT.out hb2 HN.out)
    obtain ⟨a2, n2, c2, rfl⟩ := own_form hown2
    obtain ⟨Y, HYY⟩ : ∃ Y, Bx (chkL l = Y) := ⟨_, ⟨rfl⟩⟩
    rw [HYY.out] at g2 ⊢
    clear hY hown2
    go_wp2_with fail
    go_ret
    exact ⟨ret_int (by rw [HE.out, HYY.out]), HF.out⟩
end Go.Proofs.YtjnjokbdoendkaaGreat
namespace Go.Proofs.YtjnjokbdoendkaaGreat
open Go.RowKit
set_option linter.unusedVariables false

set_option maxRecDepth 100000 in
theorem mkM_step {T : List (List Int)} {k : Nat} (h : k < T.length) {l : List Chg} (hd : decL T[k] = some l) : mkM (T.take (k + 1)) = doM (mkM (T.take k)) l := by
  unfold mkM
  rw [List.take_succ_eq_append_getElem h, List.foldl_append]
  simp [bkM, hd]
set_option maxRecDepth 100000 in
theorem mkM_length : ∀ (T : List (List Int)) (M : List Pr), (∀ b ∈ T, Byt b) → (T.foldl bkM M).length ≤ M.length + 16 * T.length
  | [], M, _ => by simp
  | b :: t, M, hb => by
    have h1 := mkM_length t (bkM M b) (fun x hx => hb x (by simp [hx]))
    have h2 : (bkM M b).length ≤ M.length + 16 := by
      unfold bkM
      cases e : decL b with
      | none => simp
      | some l =>
        have h3 := doM_length M l
        have h4 := (chkL_ok (dec_back (hb b (by simp)) e).2.1).n2
        simp only
        omega
    rw [List.foldl_cons, List.length_cons]
    omega
set_option maxRecDepth 100000 in
theorem mkM_ok : ∀ (T : List (List Int)) (M : List Pr), MOk M → (∀ b ∈ T, Byt b) → MOk (T.foldl bkM M)
  | [], M, h, _ => h
  | b :: t, M, h, hb => by
    rw [List.foldl_cons]
    refine mkM_ok t _ ?_ (fun x hx => hb x (by simp [hx]))
    unfold bkM
    cases e : decL b with
    | none => exact h
    | some l => exact h.doM (chkL_ok (dec_back (hb b (by simp)) e).2.1).c
set_option maxRecDepth 100000 in
theorem mkM_by {T : List (List Int)} (hT : ∀ b ∈ T, Byt b) (hn : T.length ≤ 4096) : byM (mkM T) ≤ 300000000 := by
  have h1 := byM_le (mkM_ok T [] MOk.nil hT)
  have h2 := mkM_length T [] hT
  have h3 : byM (mkM T) ≤ 4136 * (mkM T).length := h1
  have h4 : (mkM T).length ≤ ([] : List Pr).length + 16 * T.length := h2
  rw [List.length_nil] at h4
  omega
set_option maxRecDepth 100000 in
theorem tdec_not {T : List (List Int)} {k : Nat} (h : k < T.length) (hd : decL T[k] = none) : ¬ TDec T := fun ht => by
  have := ht _ (List.getElem_mem h)
  rw [hd] at this; cases this
set_option maxRecDepth 100000 in
theorem tdec_all {T : List (List Int)} {k : Nat} (hk : T.length ≤ k) (h : ∀ j x, T[j]? = some x → j < k → (decL x).isSome = true) : TDec T := fun b hb => by
  obtain ⟨i, hi, e⟩ := List.getElem_of_mem hb
  exact h i b (by rw [List.getElem?_eq_getElem hi, e]) (by omega)
/-- what Open answers of a log that is -/
def SOP (s : DS) (T : List (List Int)) (p : Nat) (q : Int) (g : Nat) (own : Nat → Prop) (w : World) (e : Ending) (w' : World) : Prop :=
  (TDec T ∧ ∃ gs gl oD oL oS, e = .returned (.tuple #[.pointer (some ⟨gs, 0, none⟩), .int .i64 0]) ∧ Tri w' g gl gs oD oL oS (s.wipS p) ⟨T, p, false⟩ q (mkM T) ∧ Did own w w' oD ∧ (∀ k, oL k → w.heap.size ≤ k) ∧ (∀ k, oS k → w.heap.size ≤ k)) ∨
  (¬ TDec T ∧ e = .returned (.tuple #[.pointer none, .int .i64 4]) ∧ ∃ own', Dsk w' g own' (s.wipS p) ∧ Did own w w' own')
set_option maxRecDepth 100000 in
set_option maxHeartbeats 400000 in
theorem sopen_arg (p : Option Addr) (q : Int) (w : World) (hq : q < 0) :
    Calls Tryz.prog 11 #[.pointer p, .int .i64 q] w fun e w' => e = .returned (.tuple #[.pointer none, .int .i64 2]) ∧ w = w' := by
  go_enter Tryz.func11, Tryz.ntmps11
  go_wp2
  go_ret2
  exact ⟨rfl, rfl⟩
/-- a store that is being opened -/
structure OpS (w2 wk : World) (N1 N2 gs gl : Nat) (q : Int) (oS : Nat → Prop) (M : List Pr) (vT : Value) (T : List (List Int)) : Prop where
  st : St wk gs gl q (byM M : Int) oS M
  ge : ∀ k, oS k → w2.heap.size ≤ k ∧ ¬ (N1 ≤ k ∧ k < N2)
  low : Below w2.heap.size w2 wk
  tl : TL wk (fun k => N1 ≤ k ∧ k < N2) vT T
  n1 : w2.heap.size ≤ N1
  n2 : N2 ≤ wk.heap.size
set_option maxRecDepth 100000 in
theorem OpS.below {w2 wk wk' : World} {N1 N2 gs gl : Nat} {q : Int} {oS : Nat → Prop} {M : List Pr} {vT : Value} {T : List (List Int)} (h : OpS w2 wk N1 N2 gs gl q oS M vT T) (hb : Below wk.heap.size wk wk') : OpS w2 wk' N1 N2 gs gl q oS M vT T :=
  ⟨h.st.below hb, h.ge, bstep h.low hb, h.tl.below hb, h.n1, Nat.le_trans h.n2 hb.size⟩
set_option maxRecDepth 100000 in
theorem OpS.did {w2 wk wk' : World} {N1 N2 gs gl : Nat} {q us : Int} {oS oS' : Nat → Prop} {M M' : List Pr} {vT : Value} {T : List (List Int)} (h : OpS w2 wk N1 N2 gs gl q oS M vT T) (hS : St wk' gs gl q us oS' M') (hu : us = (byM M' : Int)) (hd : Did oS wk wk' oS') : OpS w2 wk' N1 N2 gs gl q oS' M' vT T := by
  have hn2 := h.n2
  have hls := h.low.size
  refine ⟨by rw [← hu]; exact hS, fun k hk => ?_, h.low.trans (hd.kept.low (fun k hk => (h.ge k hk).1) hls), h.tl.kept hd.kept (fun k hk ho => (h.ge k ho).2 hk), h.n1, Nat.le_trans h.n2 hd.kept.size⟩
  rcases hd.new k hk with h1 | h1
  · exact h.ge k h1
  · exact ⟨by omega, fun h2 => by omega⟩
set_option maxRecDepth 100000 in
set_option maxHeartbeats 4000000 in
set_option maxRecDepth 100000 in
theorem sopen_ok (g : Nat) (own : Nat → Prop) (s : DS) (q : Int) (w : World) (T : List (List Int)) (p : Nat) (hq : ¬ q < 0) (hD : Dsk w g own s) (hoff : s.off = false) (hr : rdF s.now = some (T, p)) (hO : s.O.length ≤ 900000) (hE : s.wipE p = 0) :
    Calls Tryz.prog 11 #[.pointer (some ⟨g, 0, none⟩), .int .i64 q] w fun e w' => SOP s T p q g own w e w' := by
  have HC := Bx.mk (wopen_ok g own s w T p hD hoff hr hO hE)
  clear hD hr hE hoff
  go_enter Tryz.func11, Tryz.ntmps11
  go_wp2_with fail
  refine HC.out.mono ?_
  rintro e w2 ⟨gl, rfl, oD, oL, hD2, hd2, hL2, hlg, hld⟩
  have HD2 := Bx.mk hD2
  have HDI := Bx.mk hd2
  have HL2 := Bx.mk hL2
  have HGE := Bx.mk (And.intro hlg hld)
  have HTOK : Bx (TOk T) := ⟨by obtain ⟨vt, hh⟩ := hL2; exact hh.ok⟩
  have hTn : T.length ≤ 4096 := by obtain ⟨vt, hh⟩ := hL2; exact Nat.le_trans hh.tn hh.n2
  have hmm := @run_makeMap Tryz.prog
  clear hD2 hd2 hL2 hlg hld HC
  have HST0 : Bx (St ((w2.alloc (.map #[] 0)).alloc (.cells #[.pointer (some ⟨gl, 0, none⟩), .int .i64 q, .map (some w2.heap.size), .int .i64 0] 86)) (w2.heap.size + 1) gl q ((byM [] : Nat) : Int) (fun k => k = w2.heap.size ∨ k = w2.heap.size + 1) []) := ⟨w2.heap.size, #[], 0, [], by
    have hsz : (w2.alloc (.map #[] 0)).heap.size = w2.heap.size + 1 := by simp
    have hn := heap_alloc_new (w2.alloc (.map #[] 0)) (.cells #[.pointer (some ⟨gl, 0, none⟩), .int .i64 q, .map (some w2.heap.size), .int .i64 0] 86)
    rw [hsz] at hn
    refine ⟨hn, ?_, EZ.nil, rfl, by simp, .inr rfl, .inl rfl, by omega, fun k hk => by simp; omega, MOk.nil⟩
    exact (heap_alloc_old _ _ (by rw [hsz]; omega)).trans (heap_alloc_new w2 _)⟩
  have HBS : Bx (Below w2.heap.size w2 ((w2.alloc (.map #[] 0)).alloc (.cells #[.pointer (some ⟨gl, 0, none⟩), .int .i64 q, .map (some w2.heap.size), .int .i64 0] 86))) := ⟨((Below.refl _ _).alloc (Nat.le_refl _) _).alloc (by simp) _⟩
  have HSZ3 : Bx (((w2.alloc (.map #[] 0)).alloc (.cells #[.pointer (some ⟨gl, 0, none⟩), .int .i64 q, .map (some w2.heap.size), .int .i64 0] 86)).heap.size = w2.heap.size + 2) := ⟨by simp⟩
  go_wp2_with fail
  obtain ⟨gs, HGS⟩ : ∃ gs, Bx (gs = w2.heap.size + 1) := ⟨_, ⟨rfl⟩⟩
  rw [← HGS.out] at HST0 ⊢
  generalize (w2.alloc (.map #[] 0)).alloc (.cells #[.pointer (some ⟨gl, 0, none⟩), .int .i64 q, .map (some w2.heap.size), .int .i64 0] 86) = w3 at HST0 HBS HSZ3 ⊢
  refine (texts_any gl g oL ⟨T, p, false⟩ _ (HL2.out.below HBS.out)).mono ?_
  rintro e w4 ⟨v4, rfl, hT4', hb4⟩
  have hT4 : TL w4 (fun k => w3.heap.size ≤ k ∧ k < w4.heap.size) v4 T := hT4'
  clear hT4'
  obtain ⟨aT, cT, rfl, hcTm⟩ := hT4.form
  have hs4 := hb4.size
  have HO4 : Bx (OpS w2 w4 w3.heap.size w4.heap.size gs gl q (fun k => k = w2.heap.size ∨ k = gs) (mkM (T.take 0)) (.slice aT T.length cT) T ∧ ∀ j x, T[j]? = some x → j < 0 → (decL x).isSome = true) := ⟨⟨HST0.out.below hb4, fun k hk => by
    have h1 := HSZ3.out
    have h2 := HGS.out
    rcases hk with h3 | h3
    · exact ⟨by omega, fun h4 => by omega⟩
    · exact ⟨by omega, fun h4 => by omega⟩, bstep HBS.out hb4, hT4, by have := HSZ3.out; omega, Nat.le_refl _⟩, fun j x hj h0 => by omega⟩
  obtain ⟨n, HNL⟩ : ∃ n, Bx (n = T.length) := ⟨_, ⟨rfl⟩⟩
  unfold maxLen at hcTm
  rw [← HNL.out] at HO4 hTn ⊢
  clear HST0 HBS hT4 hb4 hmm HSZ3 hs4
  generalize w3.heap.size = N1 at HO4
  generalize w4.heap.size = N2 at HO4
  have hst : ∃ (k : Nat) (oS : Nat → Prop), k ≤ n ∧ (0 : Int) = k ∧ Bx (OpS w2 w4 N1 N2 gs gl q oS (mkM (T.take k)) (.slice aT n cT) T ∧ ∀ j x, T[j]? = some x → j < k → (decL x).isSome = true) := ⟨0, _, Nat.zero_le _, rfl, HO4⟩
  clear HO4
  go_wp2_with fail
  go_loopw [31] (fun i wr => ∃ (k : Nat) (oS : Nat → Prop), k ≤ n ∧ i = .int .i64 k ∧ Bx (OpS w2 wr N1 N2 gs gl q oS (mkM (T.take k)) (.slice aT n cT) T ∧ ∀ j x, T[j]? = some x → j < k → (decL x).isSome = true)) (fun i _ => n - (intOf i).toNat)
  case atStart =>
    obtain ⟨k, oS, h1, h2, h3⟩ := hst
    exact ⟨k, oS, h1, by rw [h2], h3⟩
  case round =>
    clear hst
    obtain ⟨k, oS, hk, rfl, HOS⟩ := hrel
    by_cases hlt : k < n
    · have hkI : (k : Int) < (n : Int) := by omega
      have hkT : k < T.length := by rw [← HNL.out]; exact hlt
      obtain ⟨a9, c9, e9, hTx⟩ := HOS.out.1.tl.txs
      obtain ⟨rfl, rfl⟩ : aT = a9 ∧ cT = c9 := by cases e9; exact ⟨rfl, rfl⟩
      obtain ⟨b, off, rfl, _, hc⟩ := hTx.spot (by omega)
      obtain ⟨ai, li, ci, hcell, hbt⟩ := hc k hkT
      have hgd : T.getD k [] = T[k] := by rw [List.getD_eq_getElem?_getD, List.getElem?_eq_getElem hkT]; rfl
      rw [hgd] at hbt
      have hli : li ≤ 16384 := by rw [← hbt.len_eq]; exact (HTOK.out _ (List.getElem_mem hkT)).1
      have HBT := Bx.mk hbt
      have HBYT : Bx (∀ x ∈ T.take k, Byt x) := ⟨fun x hx => (HTOK.out x (List.mem_of_mem_take hx)).2⟩
      clear hTx hc hgd hbt e9
      go_wp2_with fail
      refine (decode_any ai li ci T[k] _ HBT.out (by omega)).mono ?_
      rintro e w5 ⟨hb5, hres⟩
      rcases hres with ⟨hdn, rfl⟩ | ⟨l, v5, hds, rfl, hCL⟩
      · have HF : Bx (SOP s T p q g own w (.returned (.tuple #[.pointer none, .int .i64 4])) w5) := by
          have hlow5 := bstep HOS.out.1.low hb5
          exact ⟨.inr ⟨tdec_not hkT hdn, rfl, oD, HD2.out.below hlow5, HDI.out.below hlow5⟩⟩
        clear hdn hb5 HOS
        go_wp2_with fail
        go_ret2
        exact HF.out
      · have HOS5 := Bx.mk (HOS.out.1.below hb5)
        have HDC := Bx.mk (And.intro HOS.out.2 hds)
        have HLO := Bx.mk (chkL_ok (dec_back HBT.out.byt hds).2.1)
        have HCB : Bx (CL w5 (fun j => wr.heap.size ≤ j ∧ j < w5.heap.size) v5 l) := ⟨hCL⟩
        have HLT : Bx (∀ j, oS j → j < wr.heap.size) := ⟨HOS.out.1.st.lt⟩
        obtain ⟨a5, c5, rfl, hCT⟩ := hCL.rt chE_len
        have HCT := Bx.mk hCT
        have hl16 := HLO.out.n2
        have hby : byM (mkM (T.take k)) ≤ 300000000 := mkM_by HBYT.out (by rw [List.length_take]; omega)
        have HMS : Bx (mkM (T.take (k + 1)) = doM (mkM (T.take k)) l) := ⟨mkM_step hkT hds⟩
        have HMO : Bx (MOk (mkM (T.take k))) := ⟨mkM_ok _ [] MOk.nil HBYT.out⟩
        clear hCL hCT hds hb5 HOS hcell
        go_wp2_with fail
        refine (do_any gs gl q _ oS _ _ a5 l.length c5 l _ HOS5.out.st HCT.out (fun j hj ho => by have := HLT.out j ho; omega) HLO.out.c (by omega) (by omega) (by omega)).mono ?_
        rintro e w6 ⟨rfl, oS6, hS6, hd6⟩
        have HO6 : Bx (OpS w2 w6 N1 N2 gs gl q oS6 (mkM (T.take (k + 1))) (.slice (some ⟨b, off, none⟩) n cT) T ∧ ∀ j x, T[j]? = some x → j < k + 1 → (decL x).isSome = true) := by
          refine ⟨by rw [HMS.out]; exact HOS5.out.did hS6 (byM_do HMO.out.nod l HLO.out.p).symm hd6, fun j x hj hjk => ?_⟩
          by_cases ej : j = k
          · subst ej
            rw [List.getElem?_eq_getElem hkT] at hj
            cases hj
            rw [HDC.out.2]; rfl
          · exact HDC.out.1 j x hj (by omega)
        clear hS6 hd6 HOS5 HDC HCT HCB HLT
        go_wp2_with fail
        go_roundw
        case rel => exact ⟨k + 1, oS6, by omega, by go_num, HO6⟩
        case measure => simp [intOf]; omega
    · have hkI : ¬ (k : Int) < (n : Int) := by omega
      have HF : Bx (SOP s T p q g own w (.returned (.tuple #[.pointer (some ⟨gs, 0, none⟩), .int .i64 0])) wr) := by
        have hall : T.take k = T := List.take_of_length_le (by rw [← HNL.out]; omega)
        have hO := HOS.out.1
        rw [hall] at hO
        refine ⟨.inl ⟨tdec_all (by rw [← HNL.out]; omega) HOS.out.2, gs, gl, oD, oL, oS, rfl, ⟨HD2.out.below hO.low, HL2.out.below hO.low, hO.st, HGE.out.2, fun j hj ho => ?_, fun j hj ho => ?_⟩, HDI.out.below hO.low, HGE.out.1, fun j hj => ?_⟩⟩
        · have h1 := HD2.out.lt j ho; have h2 := (hO.ge j hj).1; omega
        · have h1 := HL2.out.lt j ho; have h2 := (hO.ge j hj).1; omega
        · have h1 := HDI.out.kept.size; have h2 := (hO.ge j hj).1; omega
      clear HOS
      go_wp2_with fail
      go_ret2
      exact HF.out
end Go.Proofs.YtjnjokbdoendkaaGreat
