/- A store of the law's own, side by side with what the law holds besides; how many calls. Calls on the law's store. -/
import Derived.Test.YtjnjokbdoendkaaGreatSAll
import Derived.Test.YtjnjokbdoendkaaGreatSla
import Derived.Test.YtjnjokbdoendkaaGreatSrp
import Derived.Test.YtjnjokbdoendkaaGreatSdi
import Derived.Test.YtjnjokbdoendkaaGreatSma
import Derived.Test.YtjnjokbdoendkaaGreatSCut
namespace Go.Proofs.YtjnjokbdoendkaaGreat
open Go.RowKit
set_option linter.unusedVariables false

/-- what the law holds besides stays -/
def XK (X : Nat → Prop) (w w' : World) : Prop := w.heap.size ≤ w'.heap.size ∧ ∀ k, X k → w'.heap[k]? = w.heap[k]?
set_option maxRecDepth 100000 in
theorem XK.refl (X : Nat → Prop) (w : World) : XK X w w := ⟨Nat.le_refl _, fun _ _ => rfl⟩
set_option maxRecDepth 100000 in
theorem XK.trans {X : Nat → Prop} {a b c : World} (h : XK X a b) (k : XK X b c) : XK X a c := ⟨Nat.le_trans h.1 k.1, fun j hj => (k.2 j hj).trans (h.2 j hj)⟩
/-- the law's disk, its log, its store -/
structure DT (w wr : World) (X : Nat → Prop) (gd gl gs : Nat) (s : DS) (L : LS) (q : Int) (M : List Pr) : Prop where
  ex : ∃ oD oL oS, Tri wr gd gl gs oD oL oS s L q M ∧ ∀ k, oD k ∨ oL k ∨ oS k → w.heap.size ≤ k ∧ ¬ X k
  low : Below w.heap.size w wr
  xlt : ∀ k, X k → k < wr.heap.size
section
variable {w wr w1 : World} {X X2 : Nat → Prop} {gd gl gs : Nat} {s : DS} {L : LS} {q : Int} {M : List Pr}
set_option maxRecDepth 100000 in
theorem DT.step (h : DT w wr X gd gl gs s L q M) (hb : Below wr.heap.size wr w1) : DT w w1 X gd gl gs s L q M := by
  obtain ⟨oD, oL, oS, h1, h2⟩ := h.ex
  exact ⟨⟨oD, oL, oS, h1.below hb, h2⟩, bstep h.low hb, fun k hk => Nat.lt_of_lt_of_le (h.xlt k hk) hb.size⟩
set_option maxRecDepth 100000 in
theorem DT.more (h : DT w wr X gd gl gs s L q M) (hb : Below wr.heap.size wr w1) : DT w w1 (fun k => X k ∨ (wr.heap.size ≤ k ∧ k < w1.heap.size)) gd gl gs s L q M := by
  obtain ⟨oD, oL, oS, h1, h2⟩ := h.ex
  refine ⟨⟨oD, oL, oS, h1.below hb, fun k hk => ⟨(h2 k hk).1, fun hX => ?_⟩⟩, bstep h.low hb, fun k hk => ?_⟩
  · rcases hX with hX | hX
    · exact (h2 k hk).2 hX
    · rcases hk with h3 | h3 | h3
      · have := h1.d.lt k h3; omega
      · have := h1.l.lt k h3; omega
      · have := h1.t.lt k h3; omega
  · rcases hk with h3 | h3
    · exact Nat.lt_of_lt_of_le (h.xlt k h3) hb.size
    · exact h3.2
set_option maxRecDepth 100000 in
theorem DT.less (h : DT w wr X gd gl gs s L q M) (hs : ∀ k, X2 k → X k) : DT w wr X2 gd gl gs s L q M := by
  obtain ⟨oD, oL, oS, h1, h2⟩ := h.ex
  exact ⟨⟨oD, oL, oS, h1, fun k hk => ⟨(h2 k hk).1, fun hX => (h2 k hk).2 (hs k hX)⟩⟩, h.low, fun k hk => h.xlt k (hs k hk)⟩
set_option maxRecDepth 100000 in
theorem DT.st (h : DT w wr X gd gl gs s L q M) : ∃ oS, St wr gs gl q (byM M : Int) oS M := by
  obtain ⟨oD, oL, oS, h1, h2⟩ := h.ex
  exact ⟨oS, h1.t⟩
set_option maxRecDepth 100000 in
theorem DT.mo (h : DT w wr X gd gl gs s L q M) : MOk M := by obtain ⟨oS, h1⟩ := h.st; exact h1.mo
set_option maxRecDepth 100000 in
theorem DT.ok (h : DT w wr X gd gl gs s L q M) : s.Ok := by
  obtain ⟨oD, oL, oS, h1, h2⟩ := h.ex
  exact h1.d.ok
end
set_option maxRecDepth 100000 in
theorem dt_commit (w wr : World) (X : Nat → Prop) (gd gl gs : Nat) (s : DS) (L : LS) (q : Int) (M : List Pr) (a : Option Addr) (n c : Nat) (l : List Chg) (h : DT w wr X gd gl gs s L q M) (hc : CT X wr a n c l) (hks : ∀ c ∈ l, c.key.size ≤ 9223372036854775807) (hO : s.O.length ≤ 900000) (hu : byM M ≤ 1000000000000) :
    Calls Tryz.prog 15 #[.pointer (some ⟨gs, 0, none⟩), .slice a n c] wr fun e w' => e = .returned (.int .i64 (coE s L q M l)) ∧ DT w w' X gd gl gs (coS s L q M l) (coL s L q M l) q (coM s L q M l) ∧ XK X wr w' := by
  obtain ⟨oD, oL, oS, h1, h2⟩ := h.ex
  refine (commit_any gd gl gs oD oL oS s L q M X a n c l wr h1 hc (fun k hk => ⟨fun ho => (h2 k (.inl ho)).2 hk, fun ho => (h2 k (.inr (.inl ho))).2 hk, fun ho => (h2 k (.inr (.inr ho))).2 hk⟩) hks hO hu).mono ?_
  rintro e w' ⟨rfl, pD, pL, pS, hT, hd⟩
  have hs := hd.kept.size
  have hls := h.low.size
  have hnew : ∀ k, (pD k ∨ pL k ∨ pS k) → (oD k ∨ oL k ∨ oS k) ∨ (wr.heap.size ≤ k) := fun k hk => by
    rcases hk with h3 | h3 | h3
    · rcases hd.n1 k h3 with h4 | h4
      · exact .inl (.inl h4)
      · exact .inr h4.1
    · rcases hd.n2 k h3 with h4 | h4
      · exact .inl (.inr (.inl h4))
      · exact .inr h4.1
    · rcases hd.n3 k h3 with h4 | h4
      · exact .inl (.inr (.inr h4))
      · exact .inr h4.1
  refine ⟨rfl, ⟨⟨pD, pL, pS, hT, fun k hk => ?_⟩, h.low.trans (hd.kept.low (fun k hk => (h2 k hk).1) hls), fun k hk => Nat.lt_of_lt_of_le (h.xlt k hk) hs⟩, hs, fun k hk => hd.kept.block k (h.xlt k hk) (fun ho => (h2 k ho).2 hk)⟩
  rcases hnew k hk with h3 | h3
  · exact h2 k h3
  · exact ⟨by omega, fun hX => by have := h.xlt k hX; omega⟩
set_option maxRecDepth 100000 in
theorem encL_byt {l : List Chg} (h : LOk l) (hb : ∀ c ∈ l, Byt c.val) : Byt (encL l) := by
  unfold encL
  refine Byt.append (varL_byt _ (by omega) (by have := h.n2; omega)) (flatC_byt fun c hc => ⟨hb c hc, ?_, ?_⟩)
  · have := (h.c c hc).v; omega
  · have := (h.c c hc).k2; omega
/-- a store whose disk never fails -/
structure Calm (s : DS) (L : LS) (T : List (List Int)) : Prop where
  r : Rest s T
  l : L = lgs T
  a : s.armed = false
set_option maxRecDepth 100000 in
theorem Calm.o {s : DS} {L : LS} {T : List (List Int)} (h : Calm s L T) : s.O.length ≤ 900000 := by rw [h.r.o]; exact Nat.zero_le _
set_option maxRecDepth 100000 in
theorem Calm.next {s : DS} {L : LS} {T : List (List Int)} (h : Calm s L T) : L.next ≤ s.F.length := by
  obtain ⟨z, hz⟩ := h.r.f
  rw [h.l, hz, List.length_append]
  show (FrS 0 T).length ≤ _
  omega
set_option maxRecDepth 100000 in
theorem Calm.new (n : Nat) : Calm (dnew n) (lgs []) [] := ⟨rest_new n, rfl, rfl⟩
set_option maxRecDepth 100000 in
/-- what a commit is, then -/
theorem Calm.commit {s : DS} {L : LS} {T : List (List Int)} (h : Calm s L T) (q : Int) {M : List Pr} (l : List Chg) (hb : ∀ c ∈ l, Byt c.val) :
    (coE s L q M l = 0 ∧ Calm (coS s L q M l) (coL s L q M l) (T ++ [encL l]) ∧ coM s L q M l = doM M l ∧ LOk l ∧ ¬ (0 < moM M l ∧ q < (byM M : Int) + moM M l)) ∨
    (coE s L q M l ≠ 0 ∧ coS s L q M l = s ∧ coL s L q M l = L ∧ coM s L q M l = M) := by
  by_cases hc : chkL l = 0
  · have hok := chkL_ok hc
    cases hn : coN q M l with
    | false =>
      refine .inr ⟨by rw [coE_q hc hn]; decide, ?_, ?_, ?_⟩
      · unfold coS; rw [hn]; rfl
      · unfold coL; rw [hn]; rfl
      · unfold coM; rw [hn]; rfl
    | true =>
      have hquo : ¬ (0 < moM M l ∧ q < (byM M : Int) + moM M l) := by
        unfold coN at hn
        simp only [Bool.and_eq_true, Bool.not_eq_true', Bool.and_eq_false_iff, decide_eq_false_iff_not, decide_eq_true_eq] at hn
        rcases hn.2 with h1 | h1
        · exact fun h2 => h1 h2.1
        · exact fun h2 => h1 h2.2
      have eS : coS s L q M l = apS s L (encL l) := by unfold coS; rw [hn]; rfl
      have eL : coL s L q M l = apL s L (encL l) := by unfold coL; rw [hn]; rfl
      obtain ⟨h1, h2, h3⟩ := ap_cases h.r (encL_byt hok hb)
      rw [← h.l] at h1 h2 h3
      rcases h3 with ⟨g1, g2, g3, _, _⟩ | ⟨_, g2, _⟩ | ⟨g1, g2, g3, _⟩
      · exact .inl ⟨by rw [coE_a hc hn, g1], ⟨by rw [eS]; exact g2, by rw [eL]; exact g3, by rw [eS]; exact h1 h.a⟩, by unfold coM; rw [if_pos ⟨hn, g1⟩], hok, hquo⟩
      · rw [h.a] at g2; cases g2
      · have hne : apE s L (encL l) ≠ 0 := by rcases g1 with g | g <;> rw [g] <;> decide
        refine .inr ⟨by rw [coE_a hc hn]; exact hne, by rw [eS]; exact g2, by rw [eL, g3, h.l], ?_⟩
        unfold coM; rw [if_neg (fun hh => hne hh.2)]
  · refine .inr ⟨by rw [coE_bad hc]; exact hc, ?_, ?_, ?_⟩
    · unfold coS; rw [coN_bad hc]; rfl
    · unfold coL; rw [coN_bad hc]; rfl
    · unfold coM; rw [coN_bad hc]; rfl
set_option maxRecDepth 100000 in
/-- bytes of a list's values -/
theorem RT.byts {B : Nat → Prop} {w : World} {ao : Option Addr} {len cap : Nat} {L : List Chg} (h : CT B w ao len cap L) : ∀ c ∈ L, Byt c.val := fun c hc => by
  obtain ⟨i, hi, rfl⟩ := List.getElem_of_mem hc
  obtain ⟨b, off, ai, ni, ci, _, _, _, _, _, _, hbt, _⟩ := h.chg i (by rw [← h.len_eq]; exact hi)
  exact hbt.byt
set_option maxRecDepth 100000 in
set_option maxHeartbeats 4000000 in
set_option maxRecDepth 100000 in
theorem fewd_any (a : Option Addr) (n cap : Nat) (L : List DoM) (w : World) (h : Dos w a n cap L) :
    Calls Tryz.prog 13 #[.slice a n cap] w fun e w' => ∃ m, m ≤ n ∧ m ≤ 25 ∧ e = .returned (.slice a m cap) ∧ Below w.heap.size w w' := by
  have HD := Bx.mk h
  have hcl := h.le_cap
  have hcm := h.cap_le
  unfold maxLen at hcm
  clear h
  go_enter Tryz.func13, Tryz.ntmps13
  go_wp2_with fail
  go_loopw [3, 4] (fun s i wr => ∃ (k m : Nat), k ≤ n ∧ k ≤ 25 ∧ m ≤ 60000 ∧ i = .int .i64 k ∧ s = .int .i64 m ∧ Bx (Below w.heap.size w wr)) (fun _ i _ => n - (intOf i).toNat)
  case atStart => exact ⟨0, 0, Nat.zero_le _, Nat.zero_le _, Nat.zero_le _, rfl, rfl, ⟨Below.refl _ _⟩⟩
  case round =>
    obtain ⟨k, m, hk, hk25, hm, rfl, rfl, HBW⟩ := hrel
    by_cases hgo : k < n ∧ k < 25
    · have hkI : (k : Int) < (n : Int) := by omega
      have hkJ : (k : Int) < 25 := by omega
      obtain ⟨b, off, a2, l2, c2, a3, l3, c3, rfl, x0, x1, x2, x3, hV, hbl⟩ := HD.out.at HBW.out k hgo.1
      have HV := Bx.mk (hV.below HBW.out)
      have hkc : (k : Int) ≤ (cap : Int) := by omega
      clear hV x0 x1 x3
      go_wp2_with fail
      refine (few11_any a2 l2 c2 _ _ _ HV.out.l.1 HV.out.l.2).mono ?_
      rintro e w2 ⟨v2, rfl, hcl2, hb2⟩
      obtain ⟨a4, c4, rfl, hct⟩ := hcl2.rt chE_len
      have HCT := Bx.mk hct
      have hl20 := fewL_length (L.getD k doZ).l
      have HVB : Bx (∀ c ∈ fewL (L.getD k doZ).l, c.val.length ≤ 4200) := ⟨fun c hc => (fewL_ok _ c hc).2⟩
      have HB2 := Bx.mk (bstep HBW.out hb2)
      clear hcl2 hct hb2 HV x2 HBW
      generalize fewL (L.getD k doZ).l = F at HCT HVB hl20
      obtain ⟨nf, HNF⟩ : ∃ x, Bx (F.length = x) := ⟨_, ⟨rfl⟩⟩
      rw [HNF.out] at HCT hl20 ⊢
      go_wp2_with fail
      go_loopw [3, 6] (fun s i wr => ∃ (j m2 : Nat), j ≤ nf ∧ m2 ≤ m + 4260 * j ∧ i = .int .i64 j ∧ s = .int .i64 m2 ∧ Bx (wr = w2)) (fun _ i _ => nf - (intOf i).toNat)
      case atStart => exact ⟨0, m, Nat.zero_le _, by omega, rfl, rfl, ⟨rfl⟩⟩
      case round =>
        obtain ⟨j, m2, hj, hm2, rfl, rfl, HW2⟩ := hrel
        have hw2 := HW2.out
        subst hw2
        clear HW2
        by_cases hlt : j < nf
        · have hjI : (j : Int) < (nf : Int) := by omega
          have hjL : j < F.length := by rw [HNF.out]; exact hlt
          have hval := HVB.out _ (List.getElem_mem hjL)
          obtain ⟨b5, off5, ai, ni, ci, rfl, _, _, y0, y1, y2, hbt, _⟩ := HCT.out.chg j hlt
          rw [hbt.len_eq] at hval
          clear y0 y1 hbt
          go_wp2_with fail
          go_roundw
          case rel => exact ⟨j + 1, m2 + 60 + ni, by omega, by omega, by go_num, by go_num, ⟨by first | rfl | trivial⟩⟩
          case measure => simp [intOf]; omega
        · have hjI : ¬ (j : Int) < (nf : Int) := by omega
          by_cases h6 : 60000 < m2
          · have h6I : (60000 : Int) < (m2 : Int) := by omega
            go_wp2_with fail
            go_ret
            exact ⟨k, by omega, by omega, rfl, HB2.out⟩
          · have h6I : ¬ (60000 : Int) < (m2 : Int) := by omega
            go_wp2_with fail
            go_roundw
            case rel => exact ⟨k + 1, m2, by omega, by omega, by omega, by go_num, rfl, HB2⟩
            case measure => simp [intOf]; omega
    · by_cases h25 : 25 < n
      · have h25I : (25 : Int) < (n : Int) := by omega
        have h25c : (25 : Int) ≤ (cap : Int) := by omega
        have hk2 : k = 25 := by omega
        subst hk2
        have hkI : (25 : Int) < (n : Int) := by omega
        have hkI2 : (((25 : Nat)) : Int) < (n : Int) := by omega
        clear hgo
        go_wp2_with fail
        go_ret
        exact ⟨25, by omega, by omega, rfl, HBW.out⟩
      · have h25I : ¬ (25 : Int) < (n : Int) := by omega
        have hk2 : k = n := by omega
        subst hk2
        clear hgo
        go_wp2_with fail
        go_ret
        exact ⟨k, by omega, by omega, rfl, HBW.out⟩
end Go.Proofs.YtjnjokbdoendkaaGreat
namespace Go.Proofs.YtjnjokbdoendkaaGreat
open Go.RowKit
set_option linter.unusedVariables false

set_option maxRecDepth 100000 in
theorem dt_all (w wr : World) (X : Nat → Prop) (gd gl gs : Nat) (s : DS) (L : LS) (q : Int) (M K : List Pr) (h : DT w wr X gd gl gs s L q M) (hr : Rep K M) (hM : M.length ≤ 1000000) :
    Calls Tryz.prog 27 #[.pointer (some ⟨gs, 0, none⟩)] wr fun e w' => ∃ a n c, e = .returned (.slice a n c) ∧ PT (fun k => wr.heap.size ≤ k ∧ k < w'.heap.size) w' a n c K ∧ Below wr.heap.size wr w' := by
  obtain ⟨oS, h1⟩ := h.st
  refine (all_any gs gl q _ oS M K wr h1 hr hM).mono ?_
  rintro e w' ⟨v, rfl, hp, hb⟩
  obtain ⟨a, c, rfl, hpt⟩ := hp.rt prE_len
  exact ⟨a, _, c, rfl, hpt, hb⟩
set_option maxRecDepth 100000 in
theorem dt_used (w wr : World) (X : Nat → Prop) (gd gl gs : Nat) (s : DS) (L : LS) (q : Int) (M : List Pr) (h : DT w wr X gd gl gs s L q M) :
    Calls Tryz.prog 28 #[.pointer (some ⟨gs, 0, none⟩)] wr fun e w' => e = .returned (.int .i64 (byM M : Int)) ∧ wr = w' := by
  obtain ⟨oS, h1⟩ := h.st
  exact used_any gs gl q _ oS M wr h1
set_option maxRecDepth 100000 in
theorem dt_room (w wr : World) (X : Nat → Prop) (gd gl gs : Nat) (s : DS) (L : LS) (q : Int) (M : List Pr) (h : DT w wr X gd gl gs s L q M) (hn : L.next ≤ s.F.length) :
    Calls Tryz.prog 30 #[.pointer (some ⟨gs, 0, none⟩)] wr fun e w' => e = .returned (.int .i64 (roomV s.F.length L.next)) ∧ Below wr.heap.size wr w' := by
  obtain ⟨oD, oL, oS, h1, _⟩ := h.ex
  refine (sroom_any gd gl gs oD oL oS s L q M wr h1 hn).mono ?_
  rintro e w' ⟨rfl, q', rfl⟩
  exact ⟨rfl, below_drewN (Below.refl _ _) q'⟩
set_option maxRecDepth 100000 in
theorem dt_get (w wr : World) (X : Nat → Prop) (gd gl gs : Nat) (s : DS) (L : LS) (q : Int) (M : List Pr) (k : ByteArray) (h : DT w wr X gd gl gs s L q M) :
    Calls Tryz.prog 31 #[.pointer (some ⟨gs, 0, none⟩), .string k] wr fun e w' => ∃ a n c, e = .returned (.tuple #[.slice a n c, .bool (gtM M k).isSome]) ∧ Bts w' a n c ((gtM M k).getD []) ∧ Below wr.heap.size wr w' := by
  obtain ⟨oS, h1⟩ := h.st
  have hby : Byt ((gtM M k).getD []) := by
    obtain ⟨gm, es, clock, Z, hs⟩ := h1
    obtain ⟨a, n, c, b, _, hbt, _⟩ := hs.look k
    exact hbt.byt
  refine (get_any gs gl q _ oS M k wr h1).mono ?_
  rintro e w' ⟨v, rfl, hown, hb⟩
  obtain ⟨a, c, rfl, hm⟩ := Bts.of_owns hown hby
  exact ⟨a, _, c, rfl, hm, hb⟩
set_option maxRecDepth 100000 in
theorem RT.xk {X : Nat → Prop} {w w' : World} {a : Option Addr} {n c : Nat} {L : List Chg} (h : CT X w a n c L) (hx : XK X w w') : CT X w' a n c L := h.keep (fun k _ hk => hx.2 k hk) hx.1 (fun _ _ h => h)
set_option maxRecDepth 100000 in
theorem RT.xkp {X : Nat → Prop} {w w' : World} {a : Option Addr} {n c : Nat} {L : List Pr} (h : PT X w a n c L) (hx : XK X w w') : PT X w' a n c L := h.keep (fun k _ hk => hx.2 k hk) hx.1 (fun _ _ h => h)
set_option maxRecDepth 100000 in
theorem few_b {M : List Pr} {k : Nat} (h : MOk M) (hl : M.length ≤ 16 * k) (hk : k ≤ 25) : byM M ≤ 1000000000000 ∧ M.length ≤ 1000000 := by
  have := byM_le h
  omega
set_option maxRecDepth 100000 in
/-- a commit among those ahead -/
theorem ahead_step {s : DS} {L : LS} {T : List (List Int)} {q : Int} {M K : List Pr} {l : List Chg} {k : Nat} (h : Calm s L T) (hr : Rep K M) (hM : M.length ≤ 16 * k) (hb : ∀ c ∈ l, Byt c.val) :
    ∃ T' K', Calm (coS s L q M l) (coL s L q M l) T' ∧ Rep K' (coM s L q M l) ∧ (coM s L q M l).length ≤ 16 * (k + 1) := by
  rcases h.commit q (M := M) l hb with ⟨_, h1, h2, h3, _⟩ | ⟨_, h1, h2, h3⟩
  · refine ⟨_, doneL K l, h1, by rw [h2]; exact hr.done l, ?_⟩
    rw [h2]
    have := doM_length M l
    have := h3.n2
    omega
  · rw [h1, h2, h3]
    exact ⟨T, K, h, hr, by omega⟩
set_option maxRecDepth 100000 in
theorem over_no {q : Int} {M : List Pr} {l : List Chg} (hn : Nod M) (hok : LOk l) (h : ¬ (0 < moM M l ∧ q < (byM M : Int) + moM M l)) (hg : q < (byM (doM M l) : Int)) : ¬ (byM M : Int) < (byM (doM M l) : Int) := by
  have := byM_do hn l hok.p
  omega
end Go.Proofs.YtjnjokbdoendkaaGreat
