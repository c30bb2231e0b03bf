/- Open of a store. -/
import Derived.Test.YtjnjokbdoendkabSCommit
import Derived.Test.YtjnjokbdoendkabSwa
import Derived.Test.YtjnjokbdoendkabSsd
import Derived.Carry
namespace Go.Proofs.Ytjnjokbdoendkab
open Go.RowKit
set_option linter.unusedVariables false

set_option maxRecDepth 100000 in
theorem mkM_step {T : List (List Int)} {k : Nat} (h : k < T.length) {l : List Chg} (hd : decL T[k] = some l) : mkM (T.take (k + 1)) = doM (mkM (T.take k)) l := by
  unfold mkM
  rw [List.take_succ_eq_append_getElem h, List.foldl_append]
  simp [bkM, hd]
set_option maxRecDepth 100000 in
theorem mkM_length : ∀ (T : List (List Int)) (M : List Pr), (∀ b ∈ T, Byt b) → (T.foldl bkM M).length ≤ M.length + 16 * T.length
  | [], M, _ => by simp
  | b :: t, M, hb => by
    have h1 := mkM_length t (bkM M b) (fun x hx => hb x (by simp [hx]))
    have h2 : (bkM M b).length ≤ M.length + 16 := by
      unfold bkM
      cases e : decL b with
      | none => simp
      | some l =>
        have h3 := doM_length M l
        have h4 := (chkL_ok (dec_back (hb b (by simp)) e).2.1).n2
        simp only
        omega
    rw [List.foldl_cons, List.length_cons]
    omega
set_option maxRecDepth 100000 in
theorem mkM_ok : ∀ (T : List (List Int)) (M : List Pr), MOk M → (∀ b ∈ T, Byt b) → MOk (T.foldl bkM M)
  | [], M, h, _ => h
  | b :: t, M, h, hb => by
    rw [List.foldl_cons]
    refine mkM_ok t _ ?_ (fun x hx => hb x (by simp [hx]))
    unfold bkM
    cases e : decL b with
    | none => exact h
    | some l => exact h.doM (chkL_ok (dec_back (hb b (by simp)) e).2.1).c
set_option maxRecDepth 100000 in
theorem mkM_by {T : List (List Int)} (hT : ∀ b ∈ T, Byt b) (hn : T.length ≤ 4096) : byM (mkM T) ≤ 300000000 := by
  have h1 := byM_le (mkM_ok T [] MOk.nil hT)
  have h2 := mkM_length T [] hT
  have h3 : byM (mkM T) ≤ 4136 * (mkM T).length := h1
  have h4 : (mkM T).length ≤ ([] : List Pr).length + 16 * T.length := h2
  rw [List.length_nil] at h4
  omega
set_option maxRecDepth 100000 in
theorem tdec_not {T : List (List Int)} {k : Nat} (h : k < T.length) (hd : decL T[k] = none) : ¬ TDec T := fun ht => by
  have := ht _ (List.getElem_mem h)
  rw [hd] at this; cases this
set_option maxRecDepth 100000 in
theorem tdec_all {T : List (List Int)} {k : Nat} (hk : T.length ≤ k) (h : ∀ j x, T[j]? = some x → j < k → (decL x).isSome = true) : TDec T := fun b hb => by
  obtain ⟨i, hi, e⟩ := List.getElem_of_mem hb
  exact h i b (by rw [List.getElem?_eq_getElem hi, e]) (by omega)
/-- what Open answers of a log that is -/
def SOP (s : DS) (T : List (List Int)) (p : Nat) (q : Int) (g : Nat) (own : Nat → Prop) (w : World) (e : Ending) (w' : World) : Prop :=
  (TDec T ∧ ∃ gs gl oD oL oS, e = .returned (.tuple #[.pointer (some ⟨gs, 0, none⟩), .int .i64 0]) ∧ Tri w' g gl gs oD oL oS (s.wipS p) ⟨T, p, false⟩ q (mkM T) ∧ Did own w w' oD ∧ (∀ k, oL k → w.heap.size ≤ k) ∧ (∀ k, oS k → w.heap.size ≤ k)) ∨
  (¬ TDec T ∧ e = .returned (.tuple #[.pointer none, .int .i64 4]) ∧ ∃ own', Dsk w' g own' (s.wipS p) ∧ Did own w w' own')
set_option maxRecDepth 100000 in
set_option maxHeartbeats 400000 in
theorem sopen_arg (p : Option Addr) (q : Int) (w : World) (hq : q < 0) :
    Calls Try.prog 8 #[.pointer p, .int .i64 q] w fun e w' => e = .returned (.tuple #[.pointer none, .int .i64 2]) ∧ w = w' := by
  go_enter Try.func8, Try.ntmps8
  go_wp2
  go_ret2
  exact ⟨rfl, rfl⟩
set_option maxRecDepth 100000 in
set_option maxHeartbeats 400000 in
theorem sopen_no (p : Option Addr) (q : Int) (w : World) (hq : ¬ q < 0) (h : NoD w p) :
    Calls Try.prog 8 #[.pointer p, .int .i64 q] w fun e w' => e = .returned (.tuple #[.pointer none, .int .i64 1]) ∧ w = w' := by
  have H := Bx.mk h
  clear h
  go_enter Try.func8, Try.ntmps8
  go_wp2_with fail
  refine (wopen_no p _ H.out).mono ?_
  rintro e w1 ⟨rfl, rfl⟩
  go_wp2
  go_ret2
  exact ⟨rfl, rfl⟩
set_option maxRecDepth 100000 in
set_option maxHeartbeats 1000000 in
theorem sopen_sum (g : Nat) (own : Nat → Prop) (s : DS) (q : Int) (w : World) (hq : ¬ q < 0) (hD : Dsk w g own s) (hoff : s.off = false) (hr : rdF s.now = none) :
    Calls Try.prog 8 #[.pointer (some ⟨g, 0, none⟩), .int .i64 q] w fun e w' => e = .returned (.tuple #[.pointer none, .int .i64 13]) ∧ Below w.heap.size w w' := by
  have HC := Bx.mk (wopen_sum g own s w hD hoff hr)
  clear hD hr
  go_enter Try.func8, Try.ntmps8
  go_wp2_with fail
  refine HC.out.mono ?_
  rintro e w1 ⟨rfl, hb1⟩
  go_wp2
  go_ret2
  exact ⟨rfl, hb1⟩
set_option maxRecDepth 100000 in
set_option maxHeartbeats 1000000 in
theorem sopen_err (g : Nat) (own : Nat → Prop) (s : DS) (q : Int) (w : World) (T : List (List Int)) (p : Nat) (hq : ¬ q < 0) (hD : Dsk w g own s) (hoff : s.off = false) (hr : rdF s.now = some (T, p)) (hO : s.O.length ≤ 900000) (hE : s.wipE p ≠ 0) :
    Calls Try.prog 8 #[.pointer (some ⟨g, 0, none⟩), .int .i64 q] w fun e w' => e = .returned (.tuple #[.pointer none, .int .i64 (s.wipE p)]) ∧ ∃ own', Dsk w' g own' (s.wipS p) ∧ Did own w w' own' := by
  have HC := Bx.mk (wopen_err g own s w T p hD hoff hr hO hE)
  have g1 : (s.wipE p != 0) = true := by simp [hE]
  clear hD hr hE
  obtain ⟨Y, HY⟩ : ∃ Y, Bx (s.wipE p = Y) := ⟨_, ⟨rfl⟩⟩
  rw [HY.out] at g1 HC
  go_enter Try.func8, Try.ntmps8
  go_wp2_with fail
  refine HC.out.mono ?_
  rintro e w1 ⟨rfl, hd1⟩
  have HD := Bx.mk hd1
  clear hd1
  go_wp2_with fail
  go_ret2
  exact ⟨by rw [HY.out]; rfl, HD.out⟩
/-- a store that is being opened -/
structure OpS (w2 wk : World) (N1 N2 gs gl : Nat) (q : Int) (oS : Nat → Prop) (M : List Pr) (vT : Value) (T : List (List Int)) : Prop where
  st : St wk gs gl q (byM M : Int) oS M
  ge : ∀ k, oS k → w2.heap.size ≤ k ∧ ¬ (N1 ≤ k ∧ k < N2)
  low : Below w2.heap.size w2 wk
  tl : TL wk (fun k => N1 ≤ k ∧ k < N2) vT T
  n1 : w2.heap.size ≤ N1
  n2 : N2 ≤ wk.heap.size
set_option maxRecDepth 100000 in
theorem OpS.below {w2 wk wk' : World} {N1 N2 gs gl : Nat} {q : Int} {oS : Nat → Prop} {M : List Pr} {vT : Value} {T : List (List Int)} (h : OpS w2 wk N1 N2 gs gl q oS M vT T) (hb : Below wk.heap.size wk wk') : OpS w2 wk' N1 N2 gs gl q oS M vT T :=
  ⟨h.st.below hb, h.ge, bstep h.low hb, h.tl.below hb, h.n1, Nat.le_trans h.n2 hb.size⟩
set_option maxRecDepth 100000 in
theorem OpS.did {w2 wk wk' : World} {N1 N2 gs gl : Nat} {q us : Int} {oS oS' : Nat → Prop} {M M' : List Pr} {vT : Value} {T : List (List Int)} (h : OpS w2 wk N1 N2 gs gl q oS M vT T) (hS : St wk' gs gl q us oS' M') (hu : us = (byM M' : Int)) (hd : Did oS wk wk' oS') : OpS w2 wk' N1 N2 gs gl q oS' M' vT T := by
  have hn2 := h.n2
  have hls := h.low.size
  refine ⟨by rw [← hu]; exact hS, fun k hk => ?_, h.low.trans (hd.kept.low (fun k hk => (h.ge k hk).1) hls), h.tl.kept hd.kept (fun k hk ho => (h.ge k ho).2 hk), h.n1, Nat.le_trans h.n2 hd.kept.size⟩
  rcases hd.new k hk with h1 | h1
  · exact h.ge k h1
  · exact ⟨by omega, fun h2 => by omega⟩
set_option maxRecDepth 100000 in
set_option maxHeartbeats 4000000 in
set_option maxRecDepth 100000 in
theorem sopen_ok (g : Nat) (own : Nat → Prop) (s : DS) (q : Int) (w : World) (T : List (List Int)) (p : Nat) (hq : ¬ q < 0) (hD : Dsk w g own s) (hoff : s.off = false) (hr : rdF s.now = some (T, p)) (hO : s.O.length ≤ 900000) (hE : s.wipE p = 0) :
    Calls Try.prog 8 #[.pointer (some ⟨g, 0, none⟩), .int .i64 q] w fun e w' => SOP s T p q g own w e w' := by
  have HC := Bx.mk (wopen_ok g own s w T p hD hoff hr hO hE)
  clear hD hr hE hoff
  go_enter Try.func8, Try.ntmps8
  go_wp2_with fail
  refine HC.out.mono ?_
  rintro e w2 ⟨gl, rfl, oD, oL, hD2, hd2, hL2, hlg, hld⟩
  have HD2 := Bx.mk hD2
  have HDI := Bx.mk hd2
  have HL2 := Bx.mk hL2
  have HGE := Bx.mk (And.intro hlg hld)
  have HTOK : Bx (TOk T) := ⟨by obtain ⟨vt, hh⟩ := hL2; exact hh.ok⟩
  have hTn : T.length ≤ 4096 := by obtain ⟨vt, hh⟩ := hL2; exact Nat.le_trans hh.tn hh.n2
  have hmm := @run_makeMap Try.prog
  clear hD2 hd2 hL2 hlg hld HC
  have HST0 : Bx (St ((w2.alloc (.map #[] 0)).alloc (.cells #[.pointer (some ⟨gl, 0, none⟩), .int .i64 q, .map (some w2.heap.size), .int .i64 0] 54)) (w2.heap.size + 1) gl q ((byM [] : Nat) : Int) (fun k => k = w2.heap.size ∨ k = w2.heap.size + 1) []) := ⟨w2.heap.size, #[], 0, [], by
    have hsz : (w2.alloc (.map #[] 0)).heap.size = w2.heap.size + 1 := by simp
    have hn := heap_alloc_new (w2.alloc (.map #[] 0)) (.cells #[.pointer (some ⟨gl, 0, none⟩), .int .i64 q, .map (some w2.heap.size), .int .i64 0] 54)
    rw [hsz] at hn
    refine ⟨hn, ?_, EZ.nil, rfl, by simp, .inr rfl, .inl rfl, by omega, fun k hk => by simp; omega, MOk.nil⟩
    exact (heap_alloc_old _ _ (by rw [hsz]; omega)).trans (heap_alloc_new w2 _)⟩
  have HBS : Bx (Below w2.heap.size w2 ((w2.alloc (.map #[] 0)).alloc (.cells #[.pointer (some ⟨gl, 0, none⟩), .int .i64 q, .map (some w2.heap.size), .int .i64 0] 54))) := ⟨((Below.refl _ _).alloc (Nat.le_refl _) _).alloc (by simp) _⟩
  have HSZ3 : Bx (((w2.alloc (.map #[] 0)).alloc (.cells #[.pointer (some ⟨gl, 0, none⟩), .int .i64 q, .map (some w2.heap.size), .int .i64 0] 54)).heap.size = w2.heap.size + 2) := ⟨by simp⟩
  go_wp2_with fail
  obtain ⟨gs, HGS⟩ : ∃ gs, Bx (gs = w2.heap.size + 1) := ⟨_, ⟨rfl⟩⟩
  rw [← HGS.out] at HST0 ⊢
  generalize (w2.alloc (.map #[] 0)).alloc (.cells #[.pointer (some ⟨gl, 0, none⟩), .int .i64 q, .map (some w2.heap.size), .int .i64 0] 54) = w3 at HST0 HBS HSZ3 ⊢
  refine (texts_any gl g oL ⟨T, p, false⟩ _ (HL2.out.below HBS.out)).mono ?_
  rintro e w4 ⟨v4, rfl, hT4', hb4⟩
  have hT4 : TL w4 (fun k => w3.heap.size ≤ k ∧ k < w4.heap.size) v4 T := hT4'
  clear hT4'
  obtain ⟨aT, cT, rfl, hcTm⟩ := hT4.form
  have hs4 := hb4.size
  have HO4 : Bx (OpS w2 w4 w3.heap.size w4.heap.size gs gl q (fun k => k = w2.heap.size ∨ k = gs) (mkM (T.take 0)) (.slice aT T.length cT) T ∧ ∀ j x, T[j]? = some x → j < 0 → (decL x).isSome = true) := ⟨⟨HST0.out.below hb4, fun k hk => by
    have h1 := HSZ3.out
    have h2 := HGS.out
    rcases hk with h3 | h3
    · exact ⟨by omega, fun h4 => by omega⟩
    · exact ⟨by omega, fun h4 => by omega⟩, bstep HBS.out hb4, hT4, by have := HSZ3.out; omega, Nat.le_refl _⟩, fun j x hj h0 => by omega⟩
  obtain ⟨n, HNL⟩ : ∃ n, Bx (n = T.length) := ⟨_, ⟨rfl⟩⟩
  unfold maxLen at hcTm
  rw [← HNL.out] at HO4 hTn ⊢
  clear HST0 HBS hT4 hb4 hmm HSZ3 hs4
  generalize w3.heap.size = N1 at HO4
  generalize w4.heap.size = N2 at HO4
  have hst : ∃ (k : Nat) (oS : Nat → Prop), k ≤ n ∧ (0 : Int) = k ∧ Bx (OpS w2 w4 N1 N2 gs gl q oS (mkM (T.take k)) (.slice aT n cT) T ∧ ∀ j x, T[j]? = some x → j < k → (decL x).isSome = true) := ⟨0, _, Nat.zero_le _, rfl, HO4⟩
  clear HO4
  go_wp2_with fail
  go_loopw [31] (fun i wr => ∃ (k : Nat) (oS : Nat → Prop), k ≤ n ∧ i = .int .i64 k ∧ Bx (OpS w2 wr N1 N2 gs gl q oS (mkM (T.take k)) (.slice aT n cT) T ∧ ∀ j x, T[j]? = some x → j < k → (decL x).isSome = true)) (fun i _ => n - (intOf i).toNat)
  case atStart =>
    obtain ⟨k, oS, h1, h2, h3⟩ := hst
    exact ⟨k, oS, h1, by rw [h2], h3⟩
  case round =>
    clear hst
    obtain ⟨k, oS, hk, rfl, HOS⟩ := hrel
    by_cases hlt : k < n
    · have hkI : (k : Int) < (n : Int) := by omega
      have hkT : k < T.length := by rw [← HNL.out]; exact hlt
      obtain ⟨a9, c9, e9, hTx⟩ := HOS.out.1.tl.txs
      obtain ⟨rfl, rfl⟩ : aT = a9 ∧ cT = c9 := by cases e9; exact ⟨rfl, rfl⟩
      obtain ⟨b, off, rfl, _, hc⟩ := hTx.spot (by omega)
      obtain ⟨ai, li, ci, hcell, hbt⟩ := hc k hkT
      have hgd : T.getD k [] = T[k] := by rw [List.getD_eq_getElem?_getD, List.getElem?_eq_getElem hkT]; rfl
      rw [hgd] at hbt
      have hli : li ≤ 16384 := by rw [← hbt.len_eq]; exact (HTOK.out _ (List.getElem_mem hkT)).1
      have HBT := Bx.mk hbt
      have HBYT : Bx (∀ x ∈ T.take k, Byt x) := ⟨fun x hx => (HTOK.out x (List.mem_of_mem_take hx)).2⟩
      clear hTx hc hgd hbt e9
      go_wp2_with fail
      refine (decode_any ai li ci T[k] _ HBT.out (by omega)).mono ?_
      rintro e w5 ⟨hb5, hres⟩
      rcases hres with ⟨hdn, rfl⟩ | ⟨l, v5, hds, rfl, hCL⟩
      · have HF : Bx (SOP s T p q g own w (.returned (.tuple #[.pointer none, .int .i64 4])) w5) := by
          have hlow5 := bstep HOS.out.1.low hb5
          exact ⟨.inr ⟨tdec_not hkT hdn, rfl, oD, HD2.out.below hlow5, HDI.out.below hlow5⟩⟩
        clear hdn hb5 HOS
        go_wp2_with fail
        go_ret2
        exact HF.out
      · have HOS5 := Bx.mk (HOS.out.1.below hb5)
        have HDC := Bx.mk (And.intro HOS.out.2 hds)
        have HLO := Bx.mk (chkL_ok (dec_back HBT.out.byt hds).2.1)
        have HCB : Bx (CL w5 (fun j => wr.heap.size ≤ j ∧ j < w5.heap.size) v5 l) := ⟨hCL⟩
        have HLT : Bx (∀ j, oS j → j < wr.heap.size) := ⟨HOS.out.1.st.lt⟩
        obtain ⟨a5, c5, rfl, hCT⟩ := hCL.rt chE_len
        have HCT := Bx.mk hCT
        have hl16 := HLO.out.n2
        have hby : byM (mkM (T.take k)) ≤ 300000000 := mkM_by HBYT.out (by rw [List.length_take]; omega)
        have HMS : Bx (mkM (T.take (k + 1)) = doM (mkM (T.take k)) l) := ⟨mkM_step hkT hds⟩
        have HMO : Bx (MOk (mkM (T.take k))) := ⟨mkM_ok _ [] MOk.nil HBYT.out⟩
        clear hCL hCT hds hb5 HOS hcell
        go_wp2_with fail
        refine (do_any gs gl q _ oS _ _ a5 l.length c5 l _ HOS5.out.st HCT.out (fun j hj ho => by have := HLT.out j ho; omega) HLO.out.c (by omega) (by omega) (by omega)).mono ?_
        rintro e w6 ⟨rfl, oS6, hS6, hd6⟩
        have HO6 : Bx (OpS w2 w6 N1 N2 gs gl q oS6 (mkM (T.take (k + 1))) (.slice (some ⟨b, off, none⟩) n cT) T ∧ ∀ j x, T[j]? = some x → j < k + 1 → (decL x).isSome = true) := by
          refine ⟨by rw [HMS.out]; exact HOS5.out.did hS6 (byM_do HMO.out.nod l HLO.out.p).symm hd6, fun j x hj hjk => ?_⟩
          by_cases ej : j = k
          · subst ej
            rw [List.getElem?_eq_getElem hkT] at hj
            cases hj
            rw [HDC.out.2]; rfl
          · exact HDC.out.1 j x hj (by omega)
        clear hS6 hd6 HOS5 HDC HCT HCB HLT
        go_wp2_with fail
        go_roundw
        case rel => exact ⟨k + 1, oS6, by omega, by go_num, HO6⟩
        case measure => simp [intOf]; omega
    · have hkI : ¬ (k : Int) < (n : Int) := by omega
      have HF : Bx (SOP s T p q g own w (.returned (.tuple #[.pointer (some ⟨gs, 0, none⟩), .int .i64 0])) wr) := by
        have hall : T.take k = T := List.take_of_length_le (by rw [← HNL.out]; omega)
        have hO := HOS.out.1
        rw [hall] at hO
        refine ⟨.inl ⟨tdec_all (by rw [← HNL.out]; omega) HOS.out.2, gs, gl, oD, oL, oS, rfl, ⟨HD2.out.below hO.low, HL2.out.below hO.low, hO.st, HGE.out.2, fun j hj ho => ?_, fun j hj ho => ?_⟩, HDI.out.below hO.low, HGE.out.1, fun j hj => ?_⟩⟩
        · have h1 := HD2.out.lt j ho; have h2 := (hO.ge j hj).1; omega
        · have h1 := HL2.out.lt j ho; have h2 := (hO.ge j hj).1; omega
        · have h1 := HDI.out.kept.size; have h2 := (hO.ge j hj).1; omega
      clear HOS
      go_wp2_with fail
      go_ret2
      exact HF.out
end Go.Proofs.Ytjnjokbdoendkab
