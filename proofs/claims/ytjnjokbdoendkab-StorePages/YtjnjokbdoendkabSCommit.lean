/- Commit of a store. -/
import Derived.Test.YtjnjokbdoendkabSDo
import Derived.Test.YtjnjokbdoendkabSwp
namespace Go.Proofs.Ytjnjokbdoendkab
open Go.RowKit
set_option linter.unusedVariables false

set_option maxRecDepth 100000 in
set_option maxHeartbeats 400000 in
theorem smade_yes (gs gl : Nat) (w : World) (c0 : w.cell? ⟨gs, 0, none⟩ = some (.pointer (some ⟨gl, 0, none⟩))) :
    Calls Try.prog 24 #[.pointer (some ⟨gs, 0, none⟩)] w fun e w' => e = .returned (.bool true) ∧ w = w' := by
  go_enter Try.func24, Try.ntmps24
  go_wp2
  go_ret
  exact ⟨rfl, rfl⟩
set_option maxRecDepth 100000 in
theorem St.c0 {w : World} {gs gl : Nat} {q us : Int} {own : Nat → Prop} {M : List Pr} (h : St w gs gl q us own M) : w.cell? ⟨gs, 0, none⟩ = some (.pointer (some ⟨gl, 0, none⟩)) := by obtain ⟨gm, es, clock, Z, h⟩ := h; exact h.c0
set_option maxRecDepth 100000 in
theorem St.c1 {w : World} {gs gl : Nat} {q us : Int} {own : Nat → Prop} {M : List Pr} (h : St w gs gl q us own M) : w.cell? ⟨gs, 1, none⟩ = some (.int .i64 q) := by obtain ⟨gm, es, clock, Z, h⟩ := h; exact h.c1
set_option maxRecDepth 100000 in
theorem St.c3 {w : World} {gs gl : Nat} {q us : Int} {own : Nat → Prop} {M : List Pr} (h : St w gs gl q us own M) : w.cell? ⟨gs, 3, none⟩ = some (.int .i64 us) := by obtain ⟨gm, es, clock, Z, h⟩ := h; exact h.c3
set_option maxRecDepth 100000 in
set_option maxHeartbeats 400000 in
theorem used_any (gs gl : Nat) (q us : Int) (own : Nat → Prop) (M : List Pr) (w : World) (h : St w gs gl q us own M) :
    Calls Try.prog 18 #[.pointer (some ⟨gs, 0, none⟩)] w fun e w' => e = .returned (.int .i64 us) ∧ w = w' := by
  have H0 := Bx.mk h.c0
  have c3 := h.c3
  clear h
  go_enter Try.func18, Try.ntmps18
  go_wp2_with fail
  refine (smade_yes gs gl _ H0.out).mono ?_
  rintro e w' ⟨rfl, rfl⟩
  go_wp2
  go_ret
  exact ⟨rfl, rfl⟩
/-- what Commit answers, and makes -/
def coN (q : Int) (M : List Pr) (l : List Chg) : Bool := decide (chkL l = 0) && !(decide (0 < moM M l) && decide (q < (byM M : Int) + moM M l))
def coE (s : DS) (L : LS) (q : Int) (M : List Pr) (l : List Chg) : Int := if chkL l ≠ 0 then chkL l else if coN q M l = false then 12 else apE s L (encL l)
def coS (s : DS) (L : LS) (q : Int) (M : List Pr) (l : List Chg) : DS := if coN q M l = true then apS s L (encL l) else s
def coL (s : DS) (L : LS) (q : Int) (M : List Pr) (l : List Chg) : LS := if coN q M l = true then apL s L (encL l) else L
def coM (s : DS) (L : LS) (q : Int) (M : List Pr) (l : List Chg) : List Pr := if coN q M l = true ∧ apE s L (encL l) = 0 then doM M l else M
/-- three objects side by side -/
structure Tri (w : World) (gd gl gs : Nat) (oD oL oS : Nat → Prop) (s : DS) (L : LS) (q : Int) (M : List Pr) : Prop where
  d : Dsk w gd oD s
  l : Lg w gl oL gd L
  t : St w gs gl q (byM M : Int) oS M
  ld : ∀ k, oL k → ¬ oD k
  sd : ∀ k, oS k → ¬ oD k
  sl : ∀ k, oS k → ¬ oL k
/-- what a call leaves of the rest -/
structure Did3 (oD oL oS : Nat → Prop) (w w' : World) (pD pL pS : Nat → Prop) : Prop where
  kept : Kept (fun k => oD k ∨ oL k ∨ oS k) w w'
  n1 : ∀ k, pD k → oD k ∨ (w.heap.size ≤ k ∧ k < w'.heap.size)
  n2 : ∀ k, pL k → oL k ∨ (w.heap.size ≤ k ∧ k < w'.heap.size)
  n3 : ∀ k, pS k → oS k ∨ (w.heap.size ≤ k ∧ k < w'.heap.size)
set_option maxRecDepth 100000 in
theorem Tri.below {w w' : World} {gd gl gs : Nat} {oD oL oS : Nat → Prop} {s : DS} {L : LS} {q : Int} {M : List Pr} (h : Tri w gd gl gs oD oL oS s L q M) (hb : Below w.heap.size w w') : Tri w' gd gl gs oD oL oS s L q M :=
  ⟨h.d.below hb, h.l.below hb, h.t.below hb, h.ld, h.sd, h.sl⟩
set_option maxRecDepth 100000 in
theorem Did3.of_below {oD oL oS : Nat → Prop} {w w' : World} (hb : Below w.heap.size w w') : Did3 oD oL oS w w' oD oL oS := ⟨Kept.of_below hb, fun _ h => .inl h, fun _ h => .inl h, fun _ h => .inl h⟩
/-- the answer's shape -/
def CMP (s : DS) (L : LS) (q : Int) (M : List Pr) (l : List Chg) (gd gl gs : Nat) (oD oL oS : Nat → Prop) (w w' : World) : Prop :=
  ∃ pD pL pS, Tri w' gd gl gs pD pL pS (coS s L q M l) (coL s L q M l) q (coM s L q M l) ∧ Did3 oD oL oS w w' pD pL pS
set_option maxRecDepth 100000 in
theorem CMP.no {s : DS} {L : LS} {q : Int} {M : List Pr} {l : List Chg} {gd gl gs : Nat} {oD oL oS : Nat → Prop} {w w' : World} (h : Tri w gd gl gs oD oL oS s L q M) (hb : Below w.heap.size w w') (hn : coN q M l = false) : CMP s L q M l gd gl gs oD oL oS w w' := by
  refine ⟨oD, oL, oS, ?_, Did3.of_below hb⟩
  have e1 : coS s L q M l = s := by unfold coS; rw [hn]; rfl
  have e2 : coL s L q M l = L := by unfold coL; rw [hn]; rfl
  have e3 : coM s L q M l = M := by unfold coM; rw [hn]; rfl
  rw [e1, e2, e3]; exact h.below hb
set_option maxRecDepth 100000 in
/-- behind the log's own answer -/
theorem CMP.app {s : DS} {L : LS} {q : Int} {M : List Pr} {l : List Chg} {gd gl gs : Nat} {oD oL oS : Nat → Prop} {w w3 w4 : World} (h : Tri w gd gl gs oD oL oS s L q M) (hb : Below w.heap.size w w3) (hA : APP s L (encL l) gl gd oD oL w3 w4) :
    ∃ pD pL, Dsk w4 gd pD (apS s L (encL l)) ∧ Lg w4 gl pL gd (apL s L (encL l)) ∧ St w4 gs gl q (byM M : Int) oS M ∧ (∀ k, pL k → ¬ pD k) ∧ (∀ k, oS k → ¬ pD k) ∧ (∀ k, oS k → ¬ pL k) ∧ Did3 oD oL oS w w4 pD pL oS ∧ Kept (fun k => oD k ∨ oL k) w3 w4 := by
  obtain ⟨pD, pL, hD, hL, hd⟩ := hA
  have hs := hb.size
  have hs4 := hd.kept.size
  have hlt : ∀ k, oS k → k < w.heap.size := h.t.lt
  refine ⟨pD, pL, hD, hL, (h.t.below hb).kept hd.kept (fun k hk ho => by rcases ho with h1 | h1; exact h.sd k hk h1; exact h.sl k hk h1), hd.dj, fun k hk hp => ?_, fun k hk hp => ?_, ⟨?_, fun k hk => ?_, fun k hk => ?_, fun k hk => .inl hk⟩, hd.kept⟩
  · rcases hd.n1 k hp with h1 | h1
    · exact h.sd k hk h1
    · have := hlt k hk; omega
  · rcases hd.n2 k hp with h1 | h1
    · exact h.sl k hk h1
    · have := hlt k hk; omega
  · exact (Kept.of_below hb).trans hd.kept (fun k hk => .inl (by rcases hk with h1 | h1; exact .inl h1; exact .inr (.inl h1)))
  · rcases hd.n1 k hk with h1 | h1
    · exact .inl h1
    · exact .inr ⟨by omega, h1.2⟩
  · rcases hd.n2 k hk with h1 | h1
    · exact .inl h1
    · exact .inr ⟨by omega, h1.2⟩
set_option maxRecDepth 100000 in
theorem CMP.er {s : DS} {L : LS} {q : Int} {M : List Pr} {l : List Chg} {gd gl gs : Nat} {oD oL oS : Nat → Prop} {w w3 w4 : World} (h : Tri w gd gl gs oD oL oS s L q M) (hb : Below w.heap.size w w3) (hA : APP s L (encL l) gl gd oD oL w3 w4) (hn : coN q M l = true) (he : apE s L (encL l) ≠ 0) : CMP s L q M l gd gl gs oD oL oS w w4 := by
  obtain ⟨pD, pL, h1, h2, h3, h4, h5, h6, h7, _⟩ := CMP.app h hb hA
  refine ⟨pD, pL, oS, ?_, h7⟩
  have e1 : coS s L q M l = apS s L (encL l) := by unfold coS; rw [if_pos hn]
  have e2 : coL s L q M l = apL s L (encL l) := by unfold coL; rw [if_pos hn]
  have e3 : coM s L q M l = M := by unfold coM; rw [if_neg (fun hh => he hh.2)]
  rw [e1, e2, e3]; exact ⟨h1, h2, h3, h4, h5, h6⟩
set_option maxRecDepth 100000 in
theorem CMP.ok {s : DS} {L : LS} {q : Int} {M : List Pr} {l : List Chg} {gd gl gs : Nat} {oD oL oS pD pL pS : Nat → Prop} {w w4 w5 : World} (h1 : Dsk w4 gd pD (apS s L (encL l))) (h2 : Lg w4 gl pL gd (apL s L (encL l))) (h4 : ∀ k, pL k → ¬ pD k) (h5 : ∀ k, oS k → ¬ pD k) (h6 : ∀ k, oS k → ¬ pL k) (h7 : Did3 oD oL oS w w4 pD pL oS)
    (hn : coN q M l = true) (he : apE s L (encL l) = 0) (hok : LOk l) (hM : MOk M) (hS : St w5 gs gl q ((byM M : Int) + moM M l) pS (doM M l)) (hd : Did oS w4 w5 pS) : CMP s L q M l gd gl gs oD oL oS w w5 := by
  have hs4 := h7.kept.size
  have hs5 := hd.kept.size
  refine ⟨pD, pL, pS, ?_, ⟨h7.kept.trans hd.kept (fun k hk => .inl (.inr (.inr hk))), fun k hk => ?_, fun k hk => ?_, fun k hk => ?_⟩⟩
  · have e1 : coS s L q M l = apS s L (encL l) := by unfold coS; rw [if_pos hn]
    have e2 : coL s L q M l = apL s L (encL l) := by unfold coL; rw [if_pos hn]
    have e3 : coM s L q M l = doM M l := by unfold coM; rw [if_pos ⟨hn, he⟩]
    rw [e1, e2, e3]
    rw [← byM_do hM.nod l hok.p] at hS
    refine ⟨h1.kept hd.kept (fun k hk ho => h5 k ho hk), h2.kept hd.kept (fun k hk ho => h6 k ho hk), hS, h4, fun k hk hp => ?_, fun k hk hp => ?_⟩
    · rcases hd.new k hk with h8 | h8
      · exact h5 k h8 hp
      · have := h1.lt k hp; omega
    · rcases hd.new k hk with h8 | h8
      · exact h6 k h8 hp
      · have := h2.lt k hp; omega
  · rcases h7.n1 k hk with h8 | h8
    · exact .inl h8
    · exact .inr ⟨h8.1, by omega⟩
  · rcases h7.n2 k hk with h8 | h8
    · exact .inl h8
    · exact .inr ⟨h8.1, by omega⟩
  · rcases hd.new k hk with h8 | h8
    · exact .inl h8
    · exact .inr ⟨by omega, h8.2⟩
set_option maxRecDepth 100000 in
theorem coN_bad {q : Int} {M : List Pr} {l : List Chg} (h : chkL l ≠ 0) : coN q M l = false := by unfold coN; simp [h]
set_option maxRecDepth 100000 in
theorem coE_bad {s : DS} {L : LS} {q : Int} {M : List Pr} {l : List Chg} (h : chkL l ≠ 0) : coE s L q M l = chkL l := by unfold coE; rw [if_pos h]
set_option maxRecDepth 100000 in
theorem coE_q {s : DS} {L : LS} {q : Int} {M : List Pr} {l : List Chg} (h : chkL l = 0) (hn : coN q M l = false) : coE s L q M l = 12 := by unfold coE; rw [if_neg (by simp [h]), if_pos hn]
set_option maxRecDepth 100000 in
theorem coE_a {s : DS} {L : LS} {q : Int} {M : List Pr} {l : List Chg} (h : chkL l = 0) (hn : coN q M l = true) : coE s L q M l = apE s L (encL l) := by unfold coE; rw [if_neg (by simp [h]), if_neg (by simp [hn])]
set_option maxRecDepth 100000 in
set_option maxHeartbeats 4000000 in
set_option maxRecDepth 100000 in
theorem commit_any (gd gl gs : Nat) (oD oL oS : Nat → Prop) (s : DS) (L : LS) (q : Int) (M : List Pr) (B : Nat → Prop) (ao : Option Addr) (len cap : Nat) (l : List Chg) (w : World) (hT : Tri w gd gl gs oD oL oS s L q M) (h : CT B w ao len cap l) (hB : ∀ k, B k → ¬ oD k ∧ ¬ oL k ∧ ¬ oS k) (hks : ∀ c ∈ l, c.key.size ≤ 9223372036854775807) (hO : s.O.length ≤ 900000) (hu : byM M ≤ 1000000000000) :
    Calls Try.prog 10 #[.pointer (some ⟨gs, 0, none⟩), .slice ao len cap] w fun e w' => e = .returned (.int .i64 (coE s L q M l)) ∧ CMP s L q M l gd gl gs oD oL oS w w' := by
  have HT := Bx.mk hT
  have HL := Bx.mk h
  have HB := Bx.mk hB
  have HKS := Bx.mk hks
  have HLEN : Bx (l.length = len) := ⟨h.len_eq⟩
  have H0 := Bx.mk hT.t.c0
  have hcm := Nat.le_trans h.le_cap h.cap_le
  unfold maxLen at hcm
  clear hT h hB hks
  go_enter Try.func10, Try.ntmps10
  go_wp2_with fail
  refine (smade_yes gs gl _ H0.out).mono ?_
  rintro e w1 ⟨rfl, rfl⟩
  go_wp2_with fail
  refine (encode_any B ao len cap l _ HL.out HKS.out).mono ?_
  rintro e w2 ⟨v2, rfl, hown2, hb2⟩
  by_cases hY : chkL l = 0
  · have HOK := Bx.mk (chkL_ok hY)
    have HER : Bx (encR l = encL l) := ⟨by unfold encR; rw [if_pos hY]⟩
    have hlen : len ≤ 16 := by have := HOK.out.n2; rw [HLEN.out] at this; exact this
    rw [HER.out] at hown2
    have HEB : Byt (encL l) := by
      unfold encL
      refine Byt.append (varL_byt _ (by omega) (by have := HOK.out.n2; omega)) (flatC_byt fun c hc => ?_)
      obtain ⟨i, hi, e⟩ := List.getElem_of_mem hc
      obtain ⟨_, _, ai, ni, ci, _, _, _, _, _, _, hbt, _⟩ := HL.out.chg i (by rw [← HLEN.out]; exact hi)
      rw [e] at hbt
      have h1 := hbt.len_eq
      have h2 := Nat.le_trans hbt.le_cap hbt.cap_le
      unfold maxLen at h2
      have h3 := HKS.out c hc
      exact ⟨hbt.byt, by omega, by omega⟩
    obtain ⟨a2, c2, rfl, hm2⟩ := Bts.of_owns hown2 HEB
    have HM2 := Bx.mk hm2
    have HN2 : Bx (∀ p, a2 = some p → w.heap.size ≤ p.block) := ⟨fun p e => (own_ge hown2 p e).1⟩
    have HB2 := Bx.mk hb2
    have HYY : Bx (chkL l = 0) := ⟨hY⟩
    rw [hY]
    have hmb := moP_bd HT.out.t.mo HOK.out.c len (by omega)
    rw [moP_all M l len (by rw [HLEN.out]; exact Nat.le_refl _)] at hmb
    clear hown2 hm2 hb2 hY HEB
    go_wp2_with fail
    refine (more_any gs gl q _ oS M B ao len cap l _ (HT.out.t.below HB2.out) (HL.out.below HB2.out) HOK.out.c hlen).mono ?_
    rintro e w3 ⟨rfl, hb3⟩
    have HB3 : Bx (Below w.heap.size w w3) := ⟨bstep HB2.out hb3⟩
    have HM3 : Bx (Bts w3 a2 (encL l).length c2 (encL l)) := ⟨HM2.out.below hb3⟩
    have d3 := (HT.out.t.below HB3.out).c3
    have d1 := (HT.out.t.below HB3.out).c1
    have hw : IntKind.i64.wrap ((byM M : Int) + moM M l) = (byM M : Int) + moM M l := by rw [IntWalk.i64_in _ (by omega)]
    have HCN : Bx (coN q M l = !(decide (0 < moM M l) && decide (q < (byM M : Int) + moM M l))) := ⟨by unfold coN; simp [HYY.out]⟩
    obtain ⟨mo, HMO⟩ : ∃ mo, Bx (moM M l = mo) := ⟨_, ⟨rfl⟩⟩
    rw [HMO.out] at hw hmb HCN ⊢
    clear hb3 HM2
    by_cases hq : 0 < mo ∧ q < (byM M : Int) + mo
    · have HN : Bx (coN q M l = false) := ⟨by rw [HCN.out]; simp [hq.1, hq.2]⟩
      have g1 : decide (mo > 0) = true := by simp; omega
      have g2 : decide ((byM M : Int) + mo > q) = true := by simp; omega
      have HF : Bx (∀ k, CMP s L q M l gd gl gs oD oL oS w (w3.drewN k)) := ⟨fun k => CMP.no HT.out (below_drewN HB3.out k) HN.out⟩
      clear hq
      go_wp2_with fail
      go_quiet (fail)
      have hf := Bx.mk (HF.out nq)
      go_wp2_with fail
      go_ret
      exact ⟨ret_int (coE_q HYY.out HN.out).symm, hf.out⟩
    · have HN : Bx (coN q M l = true) := ⟨by rw [HCN.out]; simp; omega⟩
      by_cases hmz : 0 < mo
      · have g1 : decide (mo > 0) = true := by simp; omega
        have g2 : decide ((byM M : Int) + mo > q) = false := by simp; omega
        clear hq
        go_wp2_with fail
        go_quiet (fail)
        have HBQ : Bx (Below w.heap.size w (w3.drewN nq)) := ⟨below_drewN HB3.out nq⟩
        have HMQ : Bx (Bts (w3.drewN nq) a2 (encL l).length c2 (encL l)) := ⟨HM3.out.drewN nq⟩
        have e0 : (w3.drewN nq).cell? ⟨gs, 0, none⟩ = some (.pointer (some ⟨gl, 0, none⟩)) := (HT.out.t.below HBQ.out).c0
        generalize w3.drewN nq = wq at HBQ HMQ e0 ⊢
        clear g1
        go_wp2_with fail
        refine (append_any gl gd oD oL s L a2 _ c2 (encL l) _ (HT.out.d.below HBQ.out) (HT.out.l.below HBQ.out) HMQ.out (fun hp p e ho => by have h1 := HN2.out p e; have h2 := HT.out.d.lt _ ho; omega) HT.out.ld hO).mono ?_
        rintro e w4 ⟨rfl, hA⟩
        by_cases hE : apE s L (encL l) = 0
        · obtain ⟨pD, pL, h1, h2, h3, h4, h5, h6, h7, hk4⟩ := CMP.app HT.out HBQ.out hA
          have HALL := Bx.mk (And.intro h1 (And.intro h2 (And.intro h4 (And.intro h5 (And.intro h6 h7)))))
          have HS4 := Bx.mk h3
          have HL4 : Bx (CT B w4 ao len cap l) := ⟨(HL.out.below HBQ.out).kept hk4 (fun k hk ho => by rcases ho with h8 | h8; exact (HB.out k hk).1 h8; exact (HB.out k hk).2.1 h8)⟩
          have HEE : Bx (apE s L (encL l) = 0) := ⟨hE⟩
          rw [hE]
          clear hE hA h1 h2 h3 h4 h5 h6 h7 hk4
          go_wp2_with fail
          refine (do_any gs gl q _ oS M B ao len cap l _ HS4.out HL4.out (fun k hk => (HB.out k hk).2.2) HOK.out.c hlen (by omega) (by omega)).mono ?_
          rintro e w5 ⟨rfl, pS, hS5, hd5⟩
          have HF := Bx.mk (CMP.ok HALL.out.1 HALL.out.2.1 HALL.out.2.2.1 HALL.out.2.2.2.1 HALL.out.2.2.2.2.1 HALL.out.2.2.2.2.2 HN.out HEE.out HOK.out HT.out.t.mo hS5 hd5)
          clear hS5 hd5
          go_wp2_with fail
          go_ret
          exact ⟨ret_int (by rw [coE_a HYY.out HN.out, HEE.out]), HF.out⟩
        · have HF := Bx.mk (CMP.er HT.out HBQ.out hA HN.out hE)
          have g5 : (apE s L (encL l) != 0) = true := by simp [hE]
          have HEE : Bx (coE s L q M l = apE s L (encL l)) := ⟨coE_a HYY.out HN.out⟩
          obtain ⟨Y, HYE⟩ : ∃ Y, Bx (apE s L (encL l) = Y) := ⟨_, ⟨rfl⟩⟩
          rw [HYE.out] at g5 ⊢
          clear hE hA
          go_wp2_with fail
          go_ret
          exact ⟨ret_int (by rw [HEE.out, HYE.out]), HF.out⟩
      · have g1 : decide (mo > 0) = false := by simp; omega
        clear hq
        go_wp2_with fail
        go_quiet (fail)
        have HBQ : Bx (Below w.heap.size w (w3.drewN nq)) := ⟨below_drewN HB3.out nq⟩
        have HMQ : Bx (Bts (w3.drewN nq) a2 (encL l).length c2 (encL l)) := ⟨HM3.out.drewN nq⟩
        have e0 : (w3.drewN nq).cell? ⟨gs, 0, none⟩ = some (.pointer (some ⟨gl, 0, none⟩)) := (HT.out.t.below HBQ.out).c0
        generalize w3.drewN nq = wq at HBQ HMQ e0 ⊢
        clear g1
        go_wp2_with fail
        refine (append_any gl gd oD oL s L a2 _ c2 (encL l) _ (HT.out.d.below HBQ.out) (HT.out.l.below HBQ.out) HMQ.out (fun hp p e ho => by have h1 := HN2.out p e; have h2 := HT.out.d.lt _ ho; omega) HT.out.ld hO).mono ?_
        rintro e w4 ⟨rfl, hA⟩
        by_cases hE : apE s L (encL l) = 0
        · obtain ⟨pD, pL, h1, h2, h3, h4, h5, h6, h7, hk4⟩ := CMP.app HT.out HBQ.out hA
          have HALL := Bx.mk (And.intro h1 (And.intro h2 (And.intro h4 (And.intro h5 (And.intro h6 h7)))))
          have HS4 := Bx.mk h3
          have HL4 : Bx (CT B w4 ao len cap l) := ⟨(HL.out.below HBQ.out).kept hk4 (fun k hk ho => by rcases ho with h8 | h8; exact (HB.out k hk).1 h8; exact (HB.out k hk).2.1 h8)⟩
          have HEE : Bx (apE s L (encL l) = 0) := ⟨hE⟩
          rw [hE]
          clear hE hA h1 h2 h3 h4 h5 h6 h7 hk4
          go_wp2_with fail
          refine (do_any gs gl q _ oS M B ao len cap l _ HS4.out HL4.out (fun k hk => (HB.out k hk).2.2) HOK.out.c hlen (by omega) (by omega)).mono ?_
          rintro e w5 ⟨rfl, pS, hS5, hd5⟩
          have HF := Bx.mk (CMP.ok HALL.out.1 HALL.out.2.1 HALL.out.2.2.1 HALL.out.2.2.2.1 HALL.out.2.2.2.2.1 HALL.out.2.2.2.2.2 HN.out HEE.out HOK.out HT.out.t.mo hS5 hd5)
          clear hS5 hd5
          go_wp2_with fail
          go_ret
          exact ⟨ret_int (by rw [coE_a HYY.out HN.out, HEE.out]), HF.out⟩
        · have HF := Bx.mk (CMP.er HT.out HBQ.out hA HN.out hE)
          have g5 : (apE s L (encL l) != 0) = true := by simp [hE]
          have HEE : Bx (coE s L q M l = apE s L (encL l)) := ⟨coE_a HYY.out HN.out⟩
          obtain ⟨Y, HYE⟩ : ∃ Y, Bx (apE s L (encL l) = Y) := ⟨_, ⟨rfl⟩⟩
          rw [HYE.out] at g5 ⊢
          clear hE hA
          go_wp2_with fail
          go_ret
          exact ⟨ret_int (by rw [HEE.out, HYE.out]), HF.out⟩
  · have HN : Bx (coN q M l = false) := ⟨coN_bad hY⟩
    have HE : Bx (coE s L q M l = chkL l) := ⟨coE_bad hY⟩
    have g2 : (chkL l != 0) = true := by simp [hY]
    have HF := Bx.mk (CMP.no (l := l) HT.out hb2 HN.out)
    obtain ⟨a2, n2, c2, rfl⟩ := own_form hown2
    obtain ⟨Y, HYY⟩ : ∃ Y, Bx (chkL l = Y) := ⟨_, ⟨rfl⟩⟩
    rw [HYY.out] at g2 ⊢
    clear hY hown2
    go_wp2_with fail
    go_ret
    exact ⟨ret_int (by rw [HE.out, HYY.out]), HF.out⟩
end Go.Proofs.Ytjnjokbdoendkab
