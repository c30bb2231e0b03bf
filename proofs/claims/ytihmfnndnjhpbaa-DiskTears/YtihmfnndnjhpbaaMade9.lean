/- The disk behind some calls, as the law makes it. -/
import Derived.Test.YtihmfnndnjhpbaaLaw9
namespace Go.Proofs.Ytihmfnndnjhpbaa
open Go.RowKit
set_option linter.unusedVariables false

/-- one of the law's calls -/
def mstep (s : DS) (k : DoM) : DS := if k.kind = 0 then s.wr (leastV k.pos 0 7) (k.b.take 64) else if k.kind = 1 then s.sy else if k.kind = 3 then s.cr [] else s
def mdS (L : List DoM) : DS := L.foldl mstep (dnew 8)
set_option maxRecDepth 100000 in
theorem mdS_more (L : List DoM) (j : Nat) (hj : j < L.length) : mdS (L.take (j + 1)) = mstep (mdS (L.take j)) (L.getD j doZ) := by
  unfold mdS
  rw [List.take_succ_eq_append_getElem hj, List.foldl_append, List.getD_eq_getElem?_getD, List.getElem?_eq_getElem hj]; rfl
/-- a disk of eight sectors, nothing armed, its power on -/
structure Eight (s : DS) : Prop where
  n : s.F.length = 8
  armed : s.armed = false
  off : s.off = false
set_option maxRecDepth 100000 in
theorem Eight.last {s : DS} (h : Eight s) : s.last = false := by simp [DS.last, h.armed]
set_option maxRecDepth 100000 in
theorem Eight.tick {s : DS} (h : Eight s) : s.tick = s := by
  have e : (if s.armed then s.left - 1 else s.left) = s.left := by rw [h.armed]; rfl
  unfold DS.tick
  rw [e]
set_option maxRecDepth 100000 in
theorem eight_new : Eight (dnew 8) := ⟨by simp [dnew], rfl, rfl⟩
set_option maxRecDepth 100000 in
theorem Eight.wr {s : DS} (h : Eight s) (x : Int) (b : List Int) (h1 : 0 ≤ x) (h2 : x ≤ 7) (h3 : b.length ≤ 64) : s.wr x b = { s with O := s.O ++ [(x.toNat, pad64 b)] } ∧ s.wrE x b = 0 := by
  have hf : s.fits x b = true := DS.fits_iff.2 ⟨h1, by rw [h.n]; omega, h3⟩
  unfold DS.wr DS.wrE
  simp [h.off, hf, h.last, h.tick]
set_option maxRecDepth 100000 in
theorem Eight.sy {s : DS} (h : Eight s) : s.sy = { s with F := app s.F s.O, O := [] } ∧ s.syE = 0 := by
  unfold DS.sy DS.syE
  simp [h.off, h.last, h.tick]
set_option maxRecDepth 100000 in
theorem take64 (b : List Int) : (b.take 64).length ≤ 64 := by rw [List.length_take]; omega
set_option maxRecDepth 100000 in
theorem mstep_eight {s : DS} (h : Eight s) (k : DoM) : Eight (mstep s k) ∧ (mstep s k).O.length ≤ s.O.length + 1 := by
  have hl := least_bd k.pos 0 7 (by decide)
  unfold mstep
  by_cases h0 : k.kind = 0
  · rw [if_pos h0, (h.wr _ _ hl.1 hl.2 (take64 k.b)).1]
    exact ⟨⟨h.n, h.armed, h.off⟩, by simp⟩
  · rw [if_neg h0]
    by_cases h1 : k.kind = 1
    · rw [if_pos h1, h.sy.1]
      exact ⟨⟨by show (app s.F s.O).length = 8; rw [app_len]; exact h.n, h.armed, h.off⟩, by simp⟩
    · rw [if_neg h1]
      by_cases h3 : k.kind = 3
      · rw [if_pos h3]
        exact ⟨⟨by show (app s.F _).length = 8; rw [app_len]; exact h.n, rfl, rfl⟩, by simp [DS.cr]⟩
      · rw [if_neg h3]; exact ⟨h, by omega⟩
set_option maxRecDepth 100000 in
theorem mdS_eight (L : List DoM) : Eight (mdS L) ∧ (mdS L).O.length ≤ L.length := by
  have h : ∀ (L : List DoM) (s : DS), Eight s → Eight (L.foldl mstep s) ∧ (L.foldl mstep s).O.length ≤ s.O.length + L.length := by
    intro L
    induction L with
    | nil => intro s hs; exact ⟨hs, by simp⟩
    | cons k r ih =>
      intro s hs
      obtain ⟨h1, h2⟩ := mstep_eight hs k
      obtain ⟨h3, h4⟩ := ih _ h1
      exact ⟨h3, by rw [List.foldl_cons, List.length_cons]; omega⟩
  obtain ⟨h1, h2⟩ := h L (dnew 8) eight_new
  exact ⟨h1, by unfold mdS; simpa [dnew] using h2⟩
set_option maxRecDepth 100000 in
theorem Dos.at {w : World} {ao : Option Addr} {len cap : Nat} {L : List DoM} (h : Dos w ao len cap L) {wr : World} (hb : Below w.heap.size w wr) (j : Nat) (hj : j < len) : ∃ b off a2 l2 c2 a3 l3 c3, ao = some ⟨b, off, none⟩ ∧
    wr.cell? ⟨b, off + j * 4, none⟩ = some (.int .i64 (L.getD j doZ).kind) ∧ wr.cell? ⟨b, off + j * 4 + 1, none⟩ = some (.int .i64 (L.getD j doZ).pos) ∧
    wr.cell? ⟨b, off + j * 4 + 2, none⟩ = some (.slice a2 l2 c2) ∧ wr.cell? ⟨b, off + j * 4 + 3, none⟩ = some (.slice a3 l3 c3) ∧ DoV w (L.getD j doZ) a2 l2 c2 a3 l3 c3 := by
  obtain ⟨b, off, e, hlt, hc⟩ := h.spot (by omega)
  obtain ⟨a2, l2, c2, a3, l3, c3, h1, h2, h3, h4, h5⟩ := hc j hj
  exact ⟨b, off, a2, l2, c2, a3, l3, c3, e, (hb.cell hlt).trans h1, (hb.cell hlt).trans h2, (hb.cell hlt).trans h3, (hb.cell hlt).trans h4, h5⟩
set_option maxRecDepth 100000 in
/-- what came in is none of what is owned -/
theorem far_bts {w : World} {a : Option Addr} {len cap : Nat} {l : List Int} (h : Bts w a len cap l) {own : Nat → Prop} (ho : ∀ k, own k → w.heap.size ≤ k) : 0 < len → ∀ p, a = some p → ¬ own p.block := by
  intro hp p e hh
  obtain ⟨b, off, e1, hlt, _⟩ := h.spot hp
  rw [e1] at e; cases e
  have := ho _ hh
  exact absurd hlt (Nat.not_lt.2 this)
set_option maxRecDepth 100000 in
theorem far_bls {w : World} {a : Option Addr} {len cap : Nat} {K : List Bool} (h : Bls w a len cap K) {own : Nat → Prop} (ho : ∀ k, own k → w.heap.size ≤ k) : 0 < len → ∀ p, a = some p → ¬ own p.block := by
  intro hp p e hh
  obtain ⟨b, off, e1, hlt, _⟩ := h.spot hp
  rw [e1] at e; cases e
  have := ho _ hh
  exact absurd hlt (Nat.not_lt.2 this)
set_option maxRecDepth 100000 in
theorem Did.up {own own' : Nat → Prop} {w w' : World} {B : Nat} (h : Did own w w' own') (ho : ∀ k, own k → B ≤ k) (hB : B ≤ w.heap.size) : ∀ k, own' k → B ≤ k := fun k hk => by
  rcases h.new k hk with h1 | h1
  · exact ho k h1
  · omega
set_option maxRecDepth 100000 in
set_option maxHeartbeats 1000000 in
theorem made_any (a : Option Addr) (len cap : Nat) (L : List DoM) (w : World) (h : Dos w a len cap L) :
    Calls Try.prog 13 #[.slice a len cap] w fun e w' => ∃ g own, e = .returned (.pointer (some ⟨g, 0, none⟩)) ∧ Dsk w' g own (mdS (L.take 150)) ∧ (∀ k, own k → w.heap.size ≤ k) ∧ Below w.heap.size w w' := by
  go_enter Try.func13, Try.ntmps13
  go_wp2_with fail
  refine (new_any 8 _ (by decide) (by decide)).mono ?_
  rintro e w1 ⟨g, rfl, hD, hb1⟩
  have h1 := h.below hb1
  go_wp2_with fail
  refine (few9_any a len cap L _ h1).mono ?_
  rintro e w' ⟨⟨m, rfl, hm, h2⟩, rfl⟩
  obtain ⟨T, hT⟩ : ∃ T, T = L.take 150 := ⟨_, rfl⟩
  have HT : Bx (T = L.take 150) := ⟨hT⟩
  have h3 : Dos w a m cap T := by
    rw [hT]
    by_cases hlen : 150 ≤ len
    · have := h.take 150 hlen
      have e1 := h2.len_eq
      have e2 := this.len_eq
      rw [← e1, e2]; exact this
    · have e0 : L.take 150 = L := List.take_of_length_le (by rw [h.len_eq]; omega)
      have e1 := h2.len_eq
      rw [e0] at e1 ⊢
      rw [← e1, h.len_eq]; exact h
  have hcm := h3.cap_le
  have hcc := h3.le_cap
  unfold maxLen at hcm
  have HL : Bx (T.length = m) := ⟨h3.len_eq⟩
  have HD3 : Bx (Dos w a m cap T) := ⟨h3⟩
  have hD0 : ∃ own, Dsk w1 g own (mdS (T.take 0)) ∧ ∀ k, own k → w.heap.size ≤ k := ⟨_, hD, fun k hk => hk.1⟩
  clear h h1 h2 h3 hT hD
  go_wp2
  go_loopw [5] (fun i wr => ∃ j : Nat, j ≤ m ∧ i = .int .i64 j ∧ Below w.heap.size w wr ∧ ∃ own, Dsk wr g own (mdS (T.take j)) ∧ ∀ k, own k → w.heap.size ≤ k) (fun i _ => m - (intOf i).toNat)
  case atStart => exact ⟨0, Nat.zero_le _, rfl, hb1, hD0⟩
  case round =>
    clear hD0 hb1
    obtain ⟨j, hj, rfl, hlow, own, hD, hown⟩ := hrel
    have hsz := hlow.size
    by_cases hlt : j < m
    · have hjI : (j : Int) < (m : Int) := by omega
      obtain ⟨b, off, a2, l2, c2, a3, l3, c3, rfl, k0, k1, k2, k3, hV⟩ := HD3.out.at hlow j hlt
      have HMO := mdS_more T j (by rw [HL.out]; exact hlt)
      have hOl : (mdS (T.take j)).O.length ≤ 1000000 := by
        have := (mdS_eight (T.take j)).2
        rw [List.length_take] at this
        omega
      have hbt := hV.b
      generalize mdS (T.take j) = s at hD hOl HMO
      generalize T.getD j doZ = k at k0 k1 hV hbt HMO
      obtain ⟨kd, x, bb, K⟩ := k
      dsimp only at k0 k1 hbt
      have hbr := hbt.below hlow
      have HF : Bx _ := ⟨far_bts hbt hown⟩
      have HMB : Bx (mdS (T.take (j + 1)) = mstep s ⟨kd, x, bb, K⟩) := ⟨HMO⟩
      clear HMO hV k3 hbt
      go_wp2_with fail
      refine (least_any x 0 7 _).mono ?_
      rintro e w' ⟨rfl, rfl⟩
      by_cases h0 : kd = 0
      · subst h0
        have HST : Bx (mdS (T.take (j + 1)) = s.wr (leastV x 0 7) (bb.take 64)) := ⟨by rw [HMB.out]; rfl⟩
        clear HMB
        go_wp2_with fail
        refine (cut_any a2 l2 c2 64 bb _ hbr (by decide)).mono ?_
        rintro e w' ⟨⟨mm, rfl, hmm⟩, rfl⟩
        have hfar : 0 < mm → ∀ p, a2 = some p → ¬ own p.block := fun hp => HF.out (by
          have e1 := hmm.len_eq
          have e2 := hbr.len_eq
          rw [List.length_take] at e1
          omega)
        generalize bb.take 64 = c at hmm HST
        clear hbr HF
        go_wp2_with fail
        refine (write_any g own s (leastV x 0 7) a2 mm c2 c _ hD hmm hfar hOl).mono ?_
        rintro e w2 ⟨rfl, own2, hD2, hdid⟩
        have hlow2 : Below w.heap.size w w2 := hlow.trans (hdid.kept.low hown hsz)
        have hup := hdid.up hown hsz
        rw [← HST.out] at hD2
        generalize s.wrE (leastV x 0 7) c = q
        clear hdid hD hmm hfar k0 k1 k2 hOl
        go_wp2
        go_roundw
        case rel => exact ⟨j + 1, by omega, by go_num, hlow2, own2, hD2, hup⟩
        case measure => simp [intOf]; omega
      · have g0 : (kd == 0) = false := by simpa using h0
        clear hbr HF
        by_cases h1 : kd = 1
        · subst h1
          have HST : Bx (mdS (T.take (j + 1)) = s.sy) := ⟨by rw [HMB.out]; rfl⟩
          clear HMB g0
          go_wp2_with fail
          refine (sync_any g own s _ hD hOl).mono ?_
          rintro e w2 ⟨rfl, hD2, hkp⟩
          have hlow2 : Below w.heap.size w w2 := hlow.trans (hkp.low hown hsz)
          rw [← HST.out] at hD2
          generalize s.syE = q
          clear hkp hD k0 k1 k2 hOl
          go_wp2
          go_roundw
          case rel => exact ⟨j + 1, by omega, by go_num, hlow2, own, hD2, hown⟩
          case measure => simp [intOf]; omega
        · have g1 : (kd == 1) = false := by simpa using h1
          by_cases h3 : kd = 3
          · subst h3
            have HST : Bx (mdS (T.take (j + 1)) = s.cr []) := ⟨by rw [HMB.out]; rfl⟩
            clear HMB g0 g1
            go_wp2_with fail
            refine (crash_any g own s none 0 0 [] _ hD (bls_nil _ _) (fun hp => absurd hp (Nat.lt_irrefl _)) hOl).mono ?_
            rintro e w2 ⟨rfl, hD2, hkp⟩
            have hlow2 : Below w.heap.size w w2 := hlow.trans (hkp.low hown hsz)
            rw [← HST.out] at hD2
            clear hkp hD k0 k1 k2 hOl
            go_wp2
            go_roundw
            case rel => exact ⟨j + 1, by omega, by go_num, hlow2, own, hD2, hown⟩
            case measure => simp [intOf]; omega
          · have g3 : (kd == 3) = false := by simpa using h3
            have HST : Bx (mdS (T.take (j + 1)) = s) := ⟨by rw [HMB.out]; simp [mstep, h0, h1, h3]⟩
            clear HMB h0 h1 h3
            rw [← HST.out] at hD
            clear hOl
            go_wp2
            go_roundw
            case rel => exact ⟨j + 1, by omega, by go_num, hlow, own, hD, hown⟩
            case measure => simp [intOf]; omega
    · obtain rfl : j = m := by omega
      have HTT : Bx (T.take j = T) := ⟨List.take_of_length_le (by rw [HL.out]; exact Nat.le_refl _)⟩
      rw [HTT.out] at hD
      clear HTT HD3
      go_wp2
      go_ret
      exact ⟨g, own, rfl, by rw [← HT.out]; exact hD, hown, hlow⟩
end Go.Proofs.Ytihmfnndnjhpbaa
