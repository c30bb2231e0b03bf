/- The law's entries and its ledgers: numbered, filled. -/
import Derived.Test.YtbednfacipphhaaDoorLdLives
import Derived.Test.YtbednfacipphhaaDoorAuac
import Derived.Test.YtbednfacipphhaaDoorBuildOf
import Derived.Test.YtbednfacipphhaaDoorAubb
namespace Go.Proofs.YtbednfacipphhaaDoor
open Go.RowKit
set_option linter.unusedVariables false

/-- entries that have their places as numbers, and can be -/
def NumQ (Q : List EC) : Prop := ∀ i (h : i < Q.length), Q[i].e.j = (i : Int) ∧ chkN Q[i].e = 0
set_option maxRecDepth 100000 in
theorem NumQ.nil : NumQ [] := fun i h => absurd h (Nat.not_lt_zero _)
set_option maxRecDepth 100000 in
theorem NumQ.app {Q : List EC} {q : EC} (h : NumQ Q) (hj : q.e.j = (Q.length : Int)) (hc : chkN q.e = 0) : NumQ (Q ++ [q]) := fun i hi => by
  by_cases h1 : i < Q.length
  · rw [List.getElem_append_left h1]; exact h i h1
  · have h2 : i = Q.length := by rw [List.length_append, List.length_singleton] at hi; omega
    subst h2
    rw [List.getElem_append_right (Nat.le_refl _)]
    simpa using ⟨hj, hc⟩
/-- their texts -/
def txQ (Q : List EC) : List (List Int) := Q.map (fun q => enL q.e)
set_option maxRecDepth 100000 in
theorem txQ_len (Q : List EC) : (txQ Q).length = Q.length := by unfold txQ; rw [List.length_map]
set_option maxRecDepth 100000 in
theorem txQ_take (Q : List EC) (k : Nat) (h : k < Q.length) : txQ (Q.take (k + 1)) = txQ (Q.take k) ++ [enL Q[k].e] := by
  unfold txQ
  rw [List.take_succ_eq_append_getElem h, List.map_append]; rfl
set_option maxRecDepth 100000 in
theorem NumQ.add {Q : List EC} (h : NumQ Q) (k : Nat) (hk : k < Q.length) (h64 : Q.length ≤ 64) : addT (txQ (Q.take k)) Q[k].e = (txQ (Q.take (k + 1)), 0) := by
  obtain ⟨h1, h2⟩ := h k hk
  have hl : (txQ (Q.take k)).length = k := by rw [txQ_len, List.length_take]; omega
  unfold addT
  rw [if_neg (fun hh => hh h2), if_neg (by omega), if_neg (fun hh => hh (by rw [h1, hl])), txQ_take Q k hk]
set_option maxRecDepth 100000 in
theorem en_parts : ∃ i0, Tryd.prog.info? 35 = some i0 ∧ i0.zero = some (.agg (enA en0 none 0 0)) ∧ i0.size = 69 ∧ i0.bytes = 120 := by
  have h : (Tryd.prog.info? 35).map (fun i => (i.zero, i.size, i.bytes)) = some (some (.agg (enA en0 none 0 0)), 69, 120) := by kernel_rfl
  obtain ⟨i0, hi, h1⟩ := Option.map_eq_some_iff.1 h
  simp only [Prod.mk.injEq] at h1
  exact ⟨i0, hi, h1.1, h1.2.1, h1.2.2⟩
set_option maxRecDepth 100000 in
/-- '[]Entry{e}' -/
theorem wpList_build_e1 {ops : Array Oper} {rest : List Oper} {o : Oper} {a : Act} {w : World} {R : Exit → Act → World → Prop} (hgd : o.guard = none) (x : Operand) (ho : o.op = .buildSlice 23 1 #[(0, x)]) (e : En) (sa : Option Addr) (sn sc : Nat) (hd : EnD e) (hx : a.eval x = .agg (enA e sa sn sc))
    (h : wpList Tryd.prog ops R rest (a.put o.dst (.slice (some ⟨w.heap.size, 0, none⟩) 1 1)) (w.alloc (.cells (enA e sa sn sc) 35))) : wpList Tryd.prog ops R (o :: rest) a w :=
  wpList_plain hgd fun K hK => by
    obtain ⟨i0, hi, hz0, hz1, hz2⟩ := en_parts
    have hb := build_one_of 23 35 69 i0 _ Tryd.underlying23 hi hz0 hz1 (by rw [hz2]; decide) (by decide) (by decide) (enC e sa sn sc) (enC_len hd) w
    unfold Oper.wp execOp
    have hx2 : a.eval x = .agg (enC e sa sn sc).toArray := hx
    simp [ho, hx2, hb]
    exact hK _ _ h
set_option maxRecDepth 100000 in
theorem iv_ofN {w : World} {base n c : Nat} {a : Option Addr} {L : List Int} (h : w.ownsRow base 3 1 (.slice a n c) n (L.flatMap ivC)) : Ivs w a n c L := by
  obtain ⟨ai, ci, e, hIV⟩ := Ls.of_owns ivC_len h (by have := h.1; rw [iv_map, List.length_map] at this; omega)
  cases e
  exact hIV
set_option maxRecDepth 100000 in
/-- an entry that is put into a new variable -/
theorem en_varL (w : World) {e : En} {a : Option Addr} {n c : Nat} (hd : EnD e) : EnB ((w.alloc (.cells (enA en0 none 0 0) 35)).setCells w.heap.size 0 (enA e a n c).toList) w.heap.size e a n c ∧ Below w.heap.size w ((w.alloc (.cells (enA en0 none 0 0) 35)).setCells w.heap.size 0 (enA e a n c).toList) ∧ (w.alloc (.cells (enA en0 none 0 0) 35)).there w.heap.size 0 (enA e a n c).size := by
  have hv : NV 35 69 w.heap.size w.heap.size (w.alloc (.cells (enA en0 none 0 0) 35)) := NV.new (Nat.le_refl _) (enA_size en0_dig)
  exact ⟨hv.en hd, below_setCells ((Below.refl _ _).alloc (Nat.le_refl _) _) _ (Nat.le_refl _) _ _, hv.en_there hd⟩
set_option maxHeartbeats 4000000 in
set_option maxRecDepth 100000 in
theorem numbered21_any (a : Option Addr) (len cap most : Nat) (Q : List EC) (w : World) (hQ : Ens w a len cap Q) (hok : EnsOk w Q) (hm : most ≤ 60) :
    Calls Tryd.prog 25 #[.slice a len cap, .int .i64 most] w fun e w' => ∃ v R, e = .returned v ∧ OE w.heap.size v R w w' ∧ NumQ R ∧ R.length ≤ most := by
  have HQ := Bx.mk hQ
  have HOK := Bx.mk hok
  have HQL : Bx (Q.length = len) := ⟨hQ.len_eq⟩
  have HO0 := Bx.mk (OE.nil w)
  have hcm := Nat.le_trans hQ.le_cap hQ.cap_le
  unfold maxLen at hcm
  have hzv := en0_run
  obtain ⟨N, HN⟩ : ∃ N, Bx (N = w.heap.size) := ⟨_, ⟨rfl⟩⟩
  rw [← HN.out] at HO0
  clear hQ hok
  go_enter Tryd.func25, Tryd.ntmps25
  go_wp2_with fail
  go_loopw [5, 6] (fun v i wr => ∃ (k : Nat) (R : List EC), k ≤ len ∧ k ≤ most ∧ i = .int .i64 k ∧ Bx (OE N v R w wr) ∧ Bx (NumQ R) ∧ R.length ≤ k) (fun _ i _ => most - (intOf i).toNat)
  case atStart => exact ⟨0, [], Nat.zero_le _, Nat.zero_le _, rfl, HO0, ⟨NumQ.nil⟩, Nat.le_refl _⟩
  case round =>
    clear HO0
    obtain ⟨k, R, hk1, hk2, rfl, HO, HNQ, hRk⟩ := hrel
    obtain ⟨vO, hvO⟩ : ∃ x, x = u5 := ⟨_, rfl⟩
    subst hvO
    have HLW : Bx (Below w.heap.size w wr) := ⟨by rw [← HN.out]; exact HO.out.low⟩
    by_cases hgo : k < len ∧ k < most
    · obtain ⟨hlt, hltm⟩ := hgo
      have g1 : (k : Int) < (len : Int) := by omega
      have g2 : (k : Int) < (most : Int) := by omega
      have hkQ : k < Q.length := by rw [HQL.out]; exact hlt
      obtain ⟨b, off, rfl, hblt, hr⟩ := (HQ.out.below HLW.out).ec k hkQ
      have HIV : Bx (Ivs wr Q[k].a Q[k].n Q[k].c Q[k].e.o) := ⟨(HOK.out _ (List.getElem_mem hkQ)).below HLW.out⟩
      generalize Q[k] = q at hr HIV
      go_upto_region 5 with fail
      go_wp2_with (refine wpList_load_ec (q := q) rfl (.tmp 21) rfl rfl hr ?_)
      refine (cut20_any q.e q.a q.n q.c _ HIV.out q.dig).mono ?_
      rintro x w1 ⟨ca, cn, cc, rfl, hco, hb1⟩
      have HDE : Bx (EnD (cutE q.e)) := ⟨q.dig⟩
      have HIC := Bx.mk (iv_ofN hco)
      have HFAR : Bx (∀ p, ca = some p → p.block < w1.heap.size ∧ vO.ownBlock ≠ some p.block) := ⟨fun p e => by
        have h1 := hco.lt p.block (by rw [e]; rfl)
        refine ⟨h1.2, fun e2 => ?_⟩
        have h2 := (HO.out.own.lt p.block e2).2
        omega⟩
      have HO1 := Bx.mk (HO.out.step hb1)
      obtain ⟨⟨oa, oc, hvo, _⟩, _⟩ := HO1.out.ens
      clear hco hb1 hr HO HIV
      generalize cutE q.e = ce at HDE HIC
      obtain ⟨hv, hbv, hth⟩ := en_varL w1 (a := ca) (n := cn) (c := cc) HDE.out
      have HV := Bx.mk hv
      have HTH := Bx.mk hth
      have HIE := Bx.mk (enA_info (e := ce) (a := ca) (n := cn) (c := cc) HDE.out)
      have HOE : Bx ((enA ce ca cn cc).all (·.oneCell') = true) := ⟨enA_one⟩
      have HB2 := Bx.mk hbv
      have HGE : Bx (w1.heap.size ≤ w1.heap.size) := ⟨Nat.le_refl _⟩
      clear hv hbv hth
      go_upto_region 6 with (refine wpList_store_mid rfl 35 (.tmp 7) (.tmp 23) rfl w1.heap.size 0 (enA ce ca cn cc) rfl rfl ?ht HIE.out HOE.out ?_; (case ht => exact HTH.out))
      obtain ⟨g7, HG7⟩ : ∃ g7, Bx (g7 = w1.heap.size) := ⟨_, ⟨rfl⟩⟩
      have HG7' : Bx (w1.heap.size ≤ g7) := ⟨by rw [HG7.out]; exact Nat.le_refl _⟩
      have HB2' : Bx (Below w1.heap.size w1 ((w1.alloc (.cells (enA en0 none 0 0) 35)).setCells g7 0 (enA ce ca cn cc).toList)) := ⟨by rw [HG7.out]; exact HB2.out⟩
      rw [← HG7.out] at HV ⊢
      clear HB2 HTH HIE HOE
      generalize (w1.alloc (.cells (enA en0 none 0 0) 35)).setCells g7 0 (enA ce ca cn cc).toList = w2 at HV HB2' ⊢
      have c0 := HV.out.c0
      have f0 := HV.out.fr 0
      have HV2 := Bx.mk (HV.out.setJ (R.length : Int))
      have HB3 : Bx (Below w1.heap.size w1 (w2.setCell ⟨g7, 0, none⟩ (.int .i64 (R.length : Int)))) := ⟨HB2'.out.setCell (p := ⟨g7, 0, none⟩) HG7'.out _⟩
      have HCE : Bx (∃ e' : En, e' = ⟨(R.length : Int), ce.t, ce.H, ce.S, ce.k, ce.r, ce.o⟩) := ⟨_, rfl⟩
      obtain ⟨e', he'⟩ := HCE.out
      have HDE' : Bx (EnD e') := ⟨by rw [he']; exact HDE.out⟩
      have HEO : Bx (e'.o = ce.o ∧ e'.j = (R.length : Int)) := ⟨by rw [he']; exact ⟨rfl, rfl⟩⟩
      rw [← he'] at HV2
      have HIC3 : Bx (Ivs (w2.setCell ⟨g7, 0, none⟩ (.int .i64 (R.length : Int))) ca cn cc e'.o) := ⟨by rw [HEO.out.1]; exact HIC.out.below HB3.out⟩
      have HO3 := Bx.mk (HO1.out.step HB3.out)
      have HF3 : Bx (∀ p, ca = some p → p.block < (w2.setCell ⟨g7, 0, none⟩ (.int .i64 (R.length : Int))).heap.size ∧ vO.ownBlock ≠ some p.block) := ⟨fun p e => ⟨Nat.lt_of_lt_of_le (HFAR.out p e).1 HB3.out.size, (HFAR.out p e).2⟩⟩
      clear HCE he' HV HB2' HIC HO1 HFAR HDE
      go_upto_region 7 with fail
      generalize w2.setCell ⟨g7, 0, none⟩ (.int .i64 (R.length : Int)) = w3 at HV2 HB3 HIC3 HO3 HF3 ⊢
      clear c0 f0
      go_wp2_with (refine wpList_load_en rfl (.tmp 7) rfl rfl HV2.out ?_)
      refine (refcheck20_any e' ca cn cc _ HIC3.out HDE'.out).mono ?_
      rintro x w4 ⟨rfl, hb4⟩
      have HV4 := Bx.mk (HV2.out.below hb4)
      have HIC4 := Bx.mk (HIC3.out.below hb4)
      have HO4 := Bx.mk (HO3.out.step hb4)
      have HF4 : Bx (∀ p, ca = some p → p.block < w4.heap.size ∧ vO.ownBlock ≠ some p.block) := ⟨fun p e => ⟨Nat.lt_of_lt_of_le (HF3.out p e).1 hb4.size, (HF3.out p e).2⟩⟩
      clear hb4 HV2 HIC3 HO3 HF3 HB3
      by_cases hck : chkN e' = 0
      · have HCK := Bx.mk hck
        rw [hck]
        clear hck
        obtain ⟨i0, hi, hz0, hz1, hz2⟩ := en_parts
        have hOA := HO4.out.own.alloc (.cells (enA e' ca cn cc) 35)
        have hsz := HO4.out.size
        have HNW := Bx.mk (World.news_of_block (heap_alloc_new w4 (.cells (enA e' ca cn cc) 35)))
        have HNL : Bx ((enA e' ca cn cc).toList.length = 1 * 69) := ⟨by rw [Array.length_toList, enA_size HDE'.out]⟩
        have HN1 : Bx (∀ u ∈ (enA e' ca cn cc).toList, u.oneCell' = true) := ⟨enC_one⟩
        have HR60 : Bx (R.length + 1 ≤ 61) := ⟨by omega⟩
        have hR60 := HR60.out
        subst hvo
        go_wp2_with (first
          | (refine wpList_load_en rfl (.tmp 7) rfl rfl HV4.out ?_)
          | (refine wpList_build_e1 rfl (.tmp 31) rfl e' ca cn cc HDE'.out rfl ?_)
          | (at_builtin; refine wpList_append_lies _ rfl (.tmp 30) (.tmp 32) 23 rfl N 35 i0 (.agg (enA en0 none 0 0)) 69 120 Tryd.underlying23 hi hz0 hz1 hz2 (enA_size en0_dig) (by decide) _ R.length _ rfl hOA ⟨w4.heap.size, 0, none⟩ 1 1 (enA e' ca cn cc).toList rfl HNL.out HNW.out HN1.out (by decide) ?c1 ?c2 (by simp; omega) _ rfl ?_; (case c1 => unfold maxLen; omega); (case c2 => omega); intro g9 c9 w9 ho9 hg9 hl9 _))
        have HO9 : Bx (OE N (.slice (some ⟨g9, 0, none⟩) (R.length + 1) c9) (R ++ [⟨e', ca, cn, cc, HDE'.out⟩]) w w9) := ⟨HO4.out.app (q := ⟨e', ca, cn, cc, HDE'.out⟩) HIC4.out HF4.out rfl ho9 hg9 hl9⟩
        have HNQ9 : Bx (NumQ (R ++ [⟨e', ca, cn, cc, HDE'.out⟩])) := ⟨HNQ.out.app HEO.out.2 HCK.out⟩
        clear ho9 hg9 hl9 hOA hsz hi hz0 hz1 hz2
        go_roundw
        case rel => exact ⟨k + 1, _, by omega, by omega, by go_num, HO9, HNQ9, by rw [List.length_append, List.length_singleton]; omega⟩
        case measure => simp [intOf]; omega
      · have hqk : (chkN e' == 0) = false := beq_false_of_ne hck
        clear hck
        subst hvo
        go_wp2_with fail
        go_roundw
        case rel => exact ⟨k + 1, R, by omega, by omega, by go_num, HO4, HNQ, by omega⟩
        case measure => simp [intOf]; omega
    · obtain ⟨⟨oa, oc, hvo, _⟩, _⟩ := HO.out.ens
      have HF : Bx (OE w.heap.size vO R w wr ∧ NumQ R ∧ R.length ≤ most) := ⟨by rw [← HN.out]; exact HO.out, HNQ.out, by omega⟩
      by_cases hlt : k < len
      · have g1 : (k : Int) < (len : Int) := by omega
        have g2 : ¬ (k : Int) < (most : Int) := by omega
        clear hvo
        go_wp2
        go_ret
        exact ⟨vO, rfl, R, HF.out.1, HF.out.2.1, HF.out.2.2⟩
      · have g1 : ¬ (k : Int) < (len : Int) := by omega
        clear hvo
        go_wp2
        go_ret
        exact ⟨vO, rfl, R, HF.out.1, HF.out.2.1, HF.out.2.2⟩
set_option maxRecDepth 100000 in
/-- texts of entries that can be are short -/
theorem txQ_fit {Q : List EC} (h : NumQ Q) : ∀ t ∈ txQ Q, t.length ≤ 160 := fun t ht => by
  obtain ⟨q, hq, rfl⟩ := List.mem_map.1 ht
  obtain ⟨i, hi, rfl⟩ := List.mem_iff_getElem.1 hq
  exact enL_len (chkN_can (h i hi).2) Q[i].dig.1 Q[i].dig.2
/-- how filled ends -/
def FlP (K : List Int) (Q : List EC) (w : World) (e : Ending) (w' : World) : Prop := ∃ g own, e = .returned (.pointer (some ⟨g, 0, none⟩)) ∧ Lg w' own g K (txQ Q) ∧ (∀ b, own b → w.heap.size ≤ b) ∧ Below w.heap.size w w'
set_option maxHeartbeats 4000000 in
set_option maxRecDepth 100000 in
theorem filled21_any (ka : Option Addr) (kn kc : Nat) (K : List Int) (a : Option Addr) (len cap : Nat) (Q : List EC) (w : World) (hK : Bts w ka kn kc K) (hkn : kn ≤ 1000000) (hQ : Ens w a len cap Q) (hok : EnsOk w Q) (hN : NumQ Q) (h64 : len ≤ 64) :
    Calls Tryd.prog 26 #[.slice ka kn kc, .slice a len cap] w (FlP K Q w) := by
  have HQ := Bx.mk hQ
  have HOK := Bx.mk hok
  have HNQ := Bx.mk hN
  have HQL : Bx (Q.length = len) := ⟨hQ.len_eq⟩
  clear hQ hok hN
  go_enter Tryd.func26, Tryd.ntmps26
  go_wp2_with fail
  refine (new21_any ka kn kc K w hK hkn).mono ?_
  rintro e w1 ⟨g, own, rfl, hl, hn, hb1⟩
  have HG0 : Bx (∃ own, Lg w1 own g K (txQ (Q.take 0)) ∧ (∀ b, own b → w.heap.size ≤ b) ∧ Below w.heap.size w w1) := ⟨own, hl, hn, hb1⟩
  clear hl hn hb1 hK
  go_wp2_with fail
  go_loopw [6] (fun i wr => ∃ k : Nat, k ≤ len ∧ i = .int .i64 k ∧ Bx (∃ own, Lg wr own g K (txQ (Q.take k)) ∧ (∀ b, own b → w.heap.size ≤ b) ∧ Below w.heap.size w wr)) (fun i _ => len - (intOf i).toNat)
  case atStart => exact ⟨0, Nat.zero_le _, rfl, HG0⟩
  case round =>
    clear HG0
    obtain ⟨k, hk, rfl, HG⟩ := hrel
    obtain ⟨own1, hl, hn, hlow⟩ := HG.out
    by_cases hlt : k < len
    · have g1 : (k : Int) < (len : Int) := by omega
      have hkQ : k < Q.length := by rw [HQL.out]; exact hlt
      obtain ⟨b, off, rfl, hblt, hr⟩ := (HQ.out.below hlow).ec k hkQ
      have HIV : Bx (Ivs wr Q[k].a Q[k].n Q[k].c Q[k].e.o) := ⟨(HOK.out _ (List.getElem_mem hkQ)).below hlow⟩
      have HAD := Bx.mk (HNQ.out.add k hkQ (by rw [HQL.out]; exact h64))
      have HL := Bx.mk hl
      have HN := Bx.mk hn
      have HLW := Bx.mk hlow
      generalize Q[k] = q at hr HIV HAD
      clear hl hn hlow
      go_wp2_with (refine wpList_load_ec (q := q) rfl (.tmp 18) rfl rfl hr ?_)
      refine (add21_any own1 g K (txQ (Q.take k)) q.e q.a q.n q.c _ HL.out HIV.out q.dig).mono ?_
      rintro x w2 ⟨rfl, own2, hl2, hk2, ho2⟩
      rw [HAD.out] at hl2 ⊢
      have HG2 : Bx (∃ own, Lg w2 own g K (txQ (Q.take (k + 1))) ∧ (∀ b, own b → w.heap.size ≤ b) ∧ Below w.heap.size w w2) := ⟨own2, hl2, fun b hb => by rcases ho2 b hb with h1 | h1; exact HN.out b h1; exact Nat.le_trans HLW.out.size h1, ((Kept.of_below HLW.out).trans' hk2).low (fun j hj => by rw [hj]; exact HN.out g HL.out.og) (Nat.le_refl _)⟩
      clear hl2 hk2 ho2 hr HIV HL HN HLW HAD HG
      go_wp2_with fail
      go_roundw
      case rel => exact ⟨k + 1, by omega, by go_num, HG2⟩
      case measure => simp [intOf]; omega
    · have g1 : ¬ (k : Int) < (len : Int) := by omega
      obtain rfl : k = len := by omega
      have HF : Bx (Lg wr own1 g K (txQ Q) ∧ (∀ b, own1 b → w.heap.size ≤ b) ∧ Below w.heap.size w wr) := ⟨by
        have h1 := hl
        rw [List.take_of_length_le (by rw [HQL.out]; exact Nat.le_refl _)] at h1
        exact ⟨h1, hn, hlow⟩⟩
      clear hl hn hlow HG
      go_wp2
      go_ret
      exact ⟨g, own1, rfl, HF.out.1, HF.out.2.1, HF.out.2.2⟩
end Go.Proofs.YtbednfacipphhaaDoor
