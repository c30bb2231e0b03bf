/- Open of the document's own store. Scan of the document's own store. -/
import Derived.Test.YtjnjokbdoendkaaGreatSrz
import Derived.Test.YtjnjokbdoendkaaGreatSrp
import Derived.Test.YtjnjokbdoendkaaGreatSro
import Derived.Test.YtjnjokbdoendkaaGreatSco
import Derived.Test.YtjnjokbdoendkaaGreatSScan
namespace Go.Proofs.YtjnjokbdoendkaaGreat
open Go.RowKit
set_option linter.unusedVariables false

/-- the document's store in memory: its log's place, its list -/
structure RSt (w : World) (gs gl : Nat) (q : Int) (B : Nat → Prop) (a : Option Addr) (n c : Nat) (K : List Pr) : Prop where
  row : w.heap[gs]? = some (.cells #[.pointer (some ⟨gl, 0, none⟩), .int .i64 q, .slice a n c] 71 (0, 0))
  pt : PT B w a n c K
  nb : ¬ B gs
section
variable {w w' : World} {gs gl : Nat} {q : Int} {B : Nat → Prop} {a : Option Addr} {n c : Nat} {K : List Pr}
set_option maxRecDepth 100000 in
theorem RSt.lt (h : RSt w gs gl q B a n c K) : gs < w.heap.size := (Array.getElem?_eq_some_iff.1 h.row).1
set_option maxRecDepth 100000 in
theorem RSt.c0 (h : RSt w gs gl q B a n c K) : w.cell? ⟨gs, 0, none⟩ = some (.pointer (some ⟨gl, 0, none⟩)) := by rw [cell_of_row w gs 0 _ _ (0, 0) h.row]; rfl
set_option maxRecDepth 100000 in
theorem RSt.c2 (h : RSt w gs gl q B a n c K) : w.cell? ⟨gs, 2, none⟩ = some (.slice a n c) := by rw [cell_of_row w gs 2 _ _ (0, 0) h.row]; rfl
set_option maxRecDepth 100000 in
theorem RSt.fr (h : RSt w gs gl q B a n c K) (j : Nat) : w.frozen? ⟨gs, j, none⟩ = false := frozen_of_row _ _ j _ _ h.row
set_option maxRecDepth 100000 in
theorem RSt.below (h : RSt w gs gl q B a n c K) (hb : Below w.heap.size w w') : RSt w' gs gl q B a n c K := ⟨(hb.block gs h.lt).trans h.row, h.pt.below hb, h.nb⟩
set_option maxRecDepth 100000 in
theorem RSt.set {B2 : Nat → Prop} {a2 : Option Addr} {n2 c2 : Nat} {K2 : List Pr} (h : RSt w gs gl q B a n c K) (hp : PT B2 w a2 n2 c2 K2) (hn : ¬ B2 gs) : RSt (w.setCell ⟨gs, 2, none⟩ (.slice a2 n2 c2)) gs gl q B2 a2 n2 c2 K2 :=
  ⟨heap_setCell_same w gs 2 _ _ _ h.row, hp.keep (fun k _ hk => heap_setCell_other w ⟨gs, 2, none⟩ k _ (fun e => by rw [e] at hk; exact hn hk)) (by simp [World.setCell]) (fun _ _ h => h), hn⟩
end
/-- what Open answers where the log is there -/
def RSP (s : DS) (T : List (List Int)) (p : Nat) (q : Int) (m g : Nat) (own : Nat → Prop) (w : World) (e : Ending) (w' : World) : Prop :=
  ∃ oD, RS w' g oD (s.wipS p) (m + s.F.length) ∧ Did own w w' oD ∧ ((TDec T ∧ ∃ gs gl oL B K a n c, e = .returned (.tuple #[.pointer (some ⟨gs, 0, none⟩), .int .i64 0]) ∧ Rg w' gl oL g ⟨T, p, false⟩ ∧ RSt w' gs gl q B a n c K ∧ Rep K (mkM T)) ∨
  (¬ TDec T ∧ e = .returned (.tuple #[.pointer none, .int .i64 4])))
set_option maxRecDepth 100000 in
set_option maxHeartbeats 400000 in
theorem rsopen_arg (g : Nat) (q : Int) (w : World) (hq : q < 0) :
    Calls Tryz.prog 12 #[.pointer (some ⟨g, 0, none⟩), .int .i64 q] w fun e w' => e = .returned (.tuple #[.pointer none, .int .i64 2]) ∧ w = w' := by
  go_enter Tryz.func12, Tryz.ntmps12
  go_wp2
  go_ret2
  exact ⟨rfl, rfl⟩
set_option maxRecDepth 100000 in
set_option maxHeartbeats 4000000 in
set_option maxRecDepth 100000 in
theorem rsopen_ok (g : Nat) (own : Nat → Prop) (s : DS) (m : Nat) (q : Int) (w : World) (T : List (List Int)) (p : Nat) (hq : ¬ q < 0) (h : RS w g own s m) (hok : s.Ok) (hoff : s.off = false) (hm : m + s.F.length ≤ 990) (hr : rdF s.now = some (T, p)) (hE : s.wipE p = 0) :
    Calls Tryz.prog 12 #[.pointer (some ⟨g, 0, none⟩), .int .i64 q] w (RSP s T p q m g own w) := by
  have HC : Bx (Calls Tryz.prog 38 #[.pointer (some ⟨g, 0, none⟩)] w fun e w' => ∃ own' gl ownL, e = .returned (.tuple #[.pointer (some ⟨gl, 0, none⟩), .int .i64 0]) ∧ RS w' g own' (s.wipS p) (m + s.F.length) ∧ Did own w w' own' ∧ Rg w' gl ownL g ⟨T, p, false⟩) := ⟨by
    refine (ropen10_any g own s m w h hok hoff hm).mono ?_
    rintro e w' ⟨_, h2⟩
    obtain ⟨own', h3, h4, h5⟩ := h2 T p hr
    rcases h5 with ⟨_, gl, ownL, h6, h7, _, _⟩ | ⟨h6, _⟩
    · exact ⟨own', gl, ownL, h6, h3, h4, h7⟩
    · exact absurd hE h6⟩
  clear h hok hoff hm hr hE
  go_enter Tryz.func12, Tryz.ntmps12
  go_wp2_with fail
  refine HC.out.mono ?_
  rintro e w2 ⟨oD, gl, oL, rfl, hD2, hd2, hL2⟩
  have HD2 := Bx.mk hD2
  have HDI := Bx.mk hd2
  have HL2 := Bx.mk hL2
  have HTOK : Bx (TOk T) := ⟨by obtain ⟨vt, hh⟩ := hL2; exact hh.ok⟩
  have hTn : T.length ≤ 4096 := by obtain ⟨vt, hh⟩ := hL2; exact Nat.le_trans hh.tn hh.n2
  clear hD2 hd2 hL2 HC
  have hbA : Below w2.heap.size w2 (w2.alloc (.cells #[.pointer (some ⟨gl, 0, none⟩), .int .i64 q, .slice none 0 0] 71)) := (Below.refl _ _).alloc (Nat.le_refl _) _
  have hrow := heap_alloc_new w2 (.cells #[.pointer (some ⟨gl, 0, none⟩), .int .i64 q, .slice none 0 0] 71)
  have hsz : (w2.alloc (.cells #[.pointer (some ⟨gl, 0, none⟩), .int .i64 q, .slice none 0 0] 71)).heap.size = w2.heap.size + 1 := by simp
  obtain ⟨gs, hgs⟩ : ∃ gs, gs = w2.heap.size := ⟨_, rfl⟩
  have HGS : Bx (gs = w2.heap.size) := ⟨hgs⟩
  go_wp2_with fail
  generalize w2.alloc (.cells #[.pointer (some ⟨gl, 0, none⟩), .int .i64 q, .slice none 0 0] 71) = w3 at hbA hrow hsz ⊢
  rw [← hgs] at hrow hsz ⊢
  obtain ⟨n, HNL⟩ : ∃ n, Bx (n = T.length) := ⟨_, ⟨rfl⟩⟩
  rw [← HNL.out] at hTn
  have HL3 : Bx (∀ W, Below w2.heap.size w2 W → Rg W gl oL g ⟨T, p, false⟩) := ⟨fun W hW => HL2.out.below hW⟩
  have hst : RSt w3 gs gl q (fun k => gs < k) none 0 0 [] ∧ Below w2.heap.size w2 w3 := ⟨⟨hrow, RT.nil _ _, Nat.lt_irrefl _⟩, hbA⟩
  have HST := Bx.mk hst
  clear hgs hrow hsz hbA hst
  go_loopw [9] (fun i wr => ∃ (k : Nat) (K : List Pr) (a1 : Option Addr) (n1 c1 : Nat), k ≤ n ∧ i = .int .i64 k ∧ Bx (RSt wr gs gl q (fun k => gs < k) a1 n1 c1 K) ∧ Bx (Rep K (mkM (T.take k))) ∧ Bx (Below w2.heap.size w2 wr) ∧ Bx (∀ j x, T[j]? = some x → j < k → (decL x).isSome = true)) (fun i _ => n - (intOf i).toNat)
  case atStart => exact ⟨0, [], none, 0, 0, Nat.zero_le _, rfl, ⟨HST.out.1⟩, ⟨Rep.nil⟩, ⟨HST.out.2⟩, ⟨fun j x _ h0 => absurd h0 (Nat.not_lt_zero _)⟩⟩
  case round =>
    clear HST
    obtain ⟨k, K, a1, n1, c1, hk, rfl, HRS, HRP, HBW, HTD⟩ := hrel
    obtain ⟨vt, hlg⟩ := HL3.out wr HBW.out
    have c1' := hlg.c1
    by_cases hlt : k < n
    · have hkI : (k : Int) < (n : Int) := by omega
      have hkT : k < T.length := by rw [← HNL.out]; exact hlt
      obtain ⟨aT, cT, rfl, hTx⟩ := hlg.tl.txs
      have hcl := hTx.le_cap
      have hcm := hTx.cap_le
      unfold maxLen at hcm
      obtain ⟨b, off, rfl, _, hc⟩ := hTx.spot (by show 0 < T.length; omega)
      obtain ⟨ai, li, ci, hcell, hbt⟩ := hc k hkT
      have hgd : (⟨T, p, false⟩ : LS).T.getD k [] = T[k] := by show T.getD k [] = _; rw [List.getD_eq_getElem?_getD, List.getElem?_eq_getElem hkT]; rfl
      rw [hgd] at hbt
      have hli : li ≤ 16384 := by rw [← hbt.len_eq]; exact (HTOK.out _ (List.getElem_mem hkT)).1
      have HBT := Bx.mk hbt
      have HBYT : Bx (∀ x ∈ T.take k, Byt x) := ⟨fun x hx => (HTOK.out x (List.mem_of_mem_take hx)).2⟩
      have hTl : (⟨T, p, false⟩ : LS).T.length = n := by show T.length = n; exact HNL.out.symm
      rw [hTl] at c1' hcl
      clear hTx hc hgd hbt hlg hTl
      go_wp2_with fail
      refine (refdecode_any ai li ci T[k] _ HBT.out (by omega)).mono ?_
      rintro e w5 ⟨hb5, hres⟩
      clear c1' hcell
      rcases hres with ⟨hdn, rfl⟩ | ⟨l, v5, hds, rfl, hCL⟩
      · have HF : Bx (RSP s T p q m g own w (.returned (.tuple #[.pointer none, .int .i64 4])) w5) := by
          have hlow5 := bstep HBW.out hb5
          exact ⟨oD, HD2.out.below hlow5, HDI.out.trans (Did.same (Kept.of_below hlow5)), .inr ⟨tdec_not hkT hdn, rfl⟩⟩
        clear hdn hb5 HRS
        go_wp2_with fail
        go_ret2
        exact HF.out
      · have HLO := Bx.mk (chkL_ok (dec_back HBT.out.byt hds).2.1)
        obtain ⟨a5, c5, rfl, hCT⟩ := hCL.rt chE_len
        have hl16 := HLO.out.n2
        have hn1 : n1 ≤ 65536 := by
          have h1 := HRS.out.pt.len_eq
          have h2 := HRP.out.p.length_eq
          have h3 : (mkM (T.take k)).length ≤ 0 + 16 * (T.take k).length := mkM_length _ [] HBYT.out
          rw [List.length_take] at h3
          omega
        have HMS : Bx (mkM (T.take (k + 1)) = doM (mkM (T.take k)) l) := ⟨mkM_step hkT hds⟩
        have HTD2 : Bx (∀ j x, T[j]? = some x → j < k + 1 → (decL x).isSome = true) := ⟨fun j x hj hlt2 => by
          by_cases e : j = k
          · rw [e, List.getElem?_eq_getElem hkT] at hj
            obtain rfl := Option.some.inj hj
            rw [hds]; rfl
          · exact HTD.out j x hj (by omega)⟩
        have hrs5 := HRS.out.below hb5
        have HRS5 := Bx.mk hrs5
        have HCT := Bx.mk hCT
        have HB5 := Bx.mk (bstep HBW.out hb5)
        have d2 := hrs5.c2
        clear hCL hCT hb5 hds HTD HRS hrs5
        obtain ⟨nl, HNLL⟩ : ∃ x, Bx (l.length = x) := ⟨_, ⟨rfl⟩⟩
        rw [HNLL.out] at HCT hl16 ⊢
        go_wp2_with fail
        refine (rdone_any _ _ a1 a5 n1 c1 nl c5 K l _ HRS5.out.pt HCT.out (fun c hc => by have := (HLO.out.c c hc).v; omega) (by omega)).mono ?_
        rintro e w6 ⟨a6, n6, c6, rfl, hp6, hb6⟩
        have hg5 : gs < w5.heap.size := HRS5.out.lt
        have hrs6 := HRS5.out.below hb6
        have HRS7 : Bx (RSt (w6.setCell ⟨gs, 2, none⟩ (.slice a6 n6 c6)) gs gl q (fun k => gs < k) a6 n6 c6 (doneL K l)) := ⟨hrs6.set (hp6.mono (fun j _ hj => by
          rcases hj with h1 | h1
          · exact h1
          · show gs < j; omega)) (Nat.lt_irrefl _)⟩
        have d2' := hrs6.c2
        have f2 := hrs6.fr 2
        have HRP7 : Bx (Rep (doneL K l) (mkM (T.take (k + 1)))) := ⟨by rw [HMS.out]; exact HRP.out.done l⟩
        have HB7 : Bx (Below w2.heap.size w2 (w6.setCell ⟨gs, 2, none⟩ (.slice a6 n6 c6))) := ⟨(bstep HB5.out hb6).setCell (p := ⟨gs, 2, none⟩) (Nat.le_of_eq HGS.out.symm) _⟩
        clear hp6 hb6 hrs6 HRS5 HCT HRP d2 HB5
        go_wp2_with fail
        clear d2' f2
        generalize w6.setCell ⟨gs, 2, none⟩ (.slice a6 n6 c6) = w7 at HRS7 HB7 ⊢
        go_roundw
        case rel => exact ⟨k + 1, doneL K l, a6, n6, c6, by omega, by go_num, HRS7, HRP7, HB7, HTD2⟩
        case measure => simp [intOf]; omega
    · have hkI : ¬ (k : Int) < (n : Int) := by omega
      have hkT : k = T.length := by rw [← HNL.out]; omega
      obtain ⟨aT, cT, rfl, _⟩ := hlg.tl.form
      have hTl : (⟨T, p, false⟩ : LS).T.length = n := by show T.length = n; exact HNL.out.symm
      rw [hTl] at c1'
      have HF : Bx (RSP s T p q m g own w (.returned (.tuple #[.pointer (some ⟨gs, 0, none⟩), .int .i64 0])) wr) := ⟨⟨oD, HD2.out.below HBW.out, HDI.out.trans (Did.same (Kept.of_below HBW.out)), .inl ⟨fun x hx => by
        obtain ⟨j, hj, rfl⟩ := List.getElem_of_mem hx
        exact HTD.out j _ (List.getElem?_eq_getElem hj) (by omega), gs, gl, oL, _, K, a1, n1, c1, rfl, HL3.out wr HBW.out, HRS.out, by have h1 := HRP.out; rw [hkT, List.take_length] at h1; exact h1⟩⟩⟩
      clear hlg hkT hTl HTD
      go_wp2_with fail
      go_ret2
      exact HF.out
end Go.Proofs.YtjnjokbdoendkaaGreat
namespace Go.Proofs.YtjnjokbdoendkaaGreat
open Go.RowKit
set_option linter.unusedVariables false

set_option maxRecDepth 100000 in
set_option maxHeartbeats 400000 in
theorem begins11_any (s front : ByteArray) (w : World) (h1 : s.size ≤ 1000000) (h2 : front.size ≤ 1000000) :
    Calls Tryz.prog 91 #[.string s, .string front] w fun e w' => e = .returned (.bool (Lib.hasPrefix s.data.toList front.data.toList)) ∧ w = w' := by
  have HR := Bx.mk (Lib.hasPrefix_raw s front)
  by_cases hle : front.size ≤ s.size
  · have hI : (front.size : Int) ≤ (s.size : Int) := by omega
    have HR2 : Bx (((s.extract 0 front.size).toList == front.toList) = Lib.hasPrefix s.data.toList front.data.toList) := ⟨by rw [← HR.out, decide_eq_true hle]; simp⟩
    clear HR hle
    go_enter Tryz.func91, Tryz.ntmps91
    go_wp2
    go_ret
    exact ⟨by rw [← HR2.out]; rfl, rfl⟩
  · have hI : ¬ (front.size : Int) ≤ (s.size : Int) := by omega
    have HR2 : Bx (Lib.hasPrefix s.data.toList front.data.toList = false) := ⟨by rw [← HR.out, decide_eq_false hle]; rfl⟩
    clear HR hle
    go_enter Tryz.func91, Tryz.ntmps91
    go_wp2
    go_ret
    exact ⟨by rw [HR2.out]; rfl, rfl⟩
/-- what was found so far -/
def scP (K : List Pr) (front after : ByteArray) (most : Int) (k : Nat) : List Pr := ((K.take k).filter (sel front after)).take most.toNat
set_option maxRecDepth 100000 in
theorem scP_end (K : List Pr) (front after : ByteArray) (most : Int) (k : Nat) (h : K.length ≤ k) : scP K front after most k = scL K front after most := by
  unfold scP scL; rw [List.take_of_length_le h]
set_option maxRecDepth 100000 in
theorem scP_len (K : List Pr) (front after : ByteArray) (most : Int) (k : Nat) : (scP K front after most k).length ≤ k := by
  unfold scP
  have h1 : ((K.take k).filter (sel front after)).length ≤ (K.take k).length := List.length_filter_le _ _
  rw [List.length_take] at h1
  rw [List.length_take]
  omega
set_option maxRecDepth 100000 in
theorem scP_full {K : List Pr} {front after : ByteArray} {most : Int} {k : Nat} (hk : k < K.length) (h : ¬ ((scP K front after most k).length : Int) < most) : scP K front after most (k + 1) = scP K front after most k := by
  unfold scP at h ⊢
  rw [List.length_take] at h
  rw [List.take_succ_eq_append_getElem hk, List.filter_append, List.take_append_of_le_length (by omega)]
set_option maxRecDepth 100000 in
theorem scP_yes {K : List Pr} {front after : ByteArray} {most : Int} {k : Nat} (hk : k < K.length) (h : ((scP K front after most k).length : Int) < most) (hs : sel front after K[k] = true) : scP K front after most (k + 1) = scP K front after most k ++ [K[k]] := by
  unfold scP at h ⊢
  rw [List.length_take] at h
  rw [List.take_succ_eq_append_getElem hk, List.filter_append]
  have e1 : [K[k]].filter (sel front after) = [K[k]] := by simp [hs]
  rw [e1]
  generalize (K.take k).filter (sel front after) = Y at h ⊢
  rw [List.take_of_length_le (l := Y ++ [K[k]]) (by rw [List.length_append]; show Y.length + 1 ≤ _; omega), List.take_of_length_le (l := Y) (by omega)]
set_option maxRecDepth 100000 in
theorem scP_no {K : List Pr} {front after : ByteArray} {most : Int} {k : Nat} (hk : k < K.length) (hs : sel front after K[k] = false) : scP K front after most (k + 1) = scP K front after most k := by
  unfold scP
  rw [List.take_succ_eq_append_getElem hk, List.filter_append]
  have e1 : [K[k]].filter (sel front after) = [] := by simp [hs]
  rw [e1, List.append_nil]
set_option maxRecDepth 100000 in
set_option maxHeartbeats 4000000 in
set_option maxRecDepth 100000 in
theorem rscan_any (B : Nat → Prop) (a : Option Addr) (n cap gs gl : Nat) (q : Int) (K : List Pr) (front after : ByteArray) (most : Int) (w : World) (h : RSt w gs gl q B a n cap K) (hn : n ≤ 1000000) (hks : ∀ p ∈ K, p.1.size ≤ 1000000) (hf : front.size ≤ 1000000) :
    Calls Tryz.prog 53 #[.pointer (some ⟨gs, 0, none⟩), .string front, .string after, .int .i64 most] w fun e w' => ∃ a' n' c', e = .returned (.slice a' n' c') ∧ PT (fun _ => True) w' a' n' c' (scL K front after most) ∧ Below w.heap.size w w' := by
  have HS := Bx.mk h
  have HLL : Bx (K.length = n) := ⟨h.pt.len_eq⟩
  have HKS := Bx.mk hks
  have HLW : Bx (PT (fun k => k < w.heap.size) w a n cap K) := ⟨h.pt.low⟩
  obtain ⟨i0, hi, hz0, hz1, hz2⟩ := info_parts Tryz.infoP
  clear h hks
  go_enter Tryz.func53, Tryz.ntmps53
  go_wp2_with fail
  go_loopw [9, 10] (fun v i wr => ∃ j : Nat, j ≤ n ∧ i = .int .i64 j ∧ Bx (QL wr w.heap.size (fun _ => True) v (scP K front after most j)) ∧ Bx (Below w.heap.size w wr)) (fun _ i _ => n - (intOf i).toNat)
  case atStart => exact ⟨0, Nat.zero_le _, rfl, ⟨by unfold scP; rw [List.take_zero, List.filter_nil, List.take_nil]; exact QL.nil _ _ _⟩, ⟨Below.refl _ _⟩⟩
  case round =>
    obtain ⟨j, hj, rfl, HQ, HB⟩ := hrel
    obtain ⟨aQ, cQ, rfl, hcQ⟩ := HQ.out.form
    have d2 := (HS.out.below HB.out).c2
    by_cases hlt : j < n
    · have hjI : (j : Int) < (n : Int) := by omega
      have hjL : j < K.length := by rw [HLL.out]; exact hlt
      have hkk := HKS.out _ (List.getElem_mem hjL)
      have HPL := Bx.mk (scP_len K front after most j)
      have HFU : Bx (¬ ((scP K front after most j).length : Int) < most → scP K front after most (j + 1) = scP K front after most j) := ⟨scP_full hjL⟩
      have HYE : Bx (((scP K front after most j).length : Int) < most → sel front after K[j] = true → scP K front after most (j + 1) = scP K front after most j ++ [K[j]]) := ⟨scP_yes hjL⟩
      have HNO : Bx (sel front after K[j] = false → scP K front after most (j + 1) = scP K front after most j) := ⟨scP_no hjL⟩
      obtain ⟨b, off, ai, ni, ci, rfl, hbl, _, x0, x1, hbt, hlo⟩ := (HLW.out.stay HB.out).pr j hlt
      have HBT := Bx.mk hbt
      have HLO := Bx.mk hlo
      clear hbt hlo
      generalize K[j] = cc at x0 HBT HYE HNO hkk
      obtain ⟨kk, vv⟩ := cc
      simp only at x0 HBT hkk
      generalize hPQ : scP K front after most j = P at HQ HPL HFU HYE HNO
      have HPQ := Bx.mk hPQ
      clear hPQ
      have hpl := HPL.out
      by_cases hms : ((P.length : Int) < most)
      · have hmb : decide ((P.length : Int) < most) = true := decide_eq_true hms
        go_wp2_with fail
        refine (begins11_any kk front _ hkk hf).mono ?_
        rintro e w' ⟨rfl, rfl⟩
        by_cases hpf : Lib.hasPrefix kk.data.toList front.data.toList = true
        · have hgt := bgtr kk after
          by_cases haf : klt after kk
          · rw [decide_eq_true haf] at hgt
            have hse : sel front after (kk, vv) = true := by unfold sel; rw [show Lib.hasPrefix (kk, vv).1.data.toList front.data.toList = true from hpf, decide_eq_true (show klt after (kk, vv).1 from haf)]; rfl
            have HEQ := Bx.mk (HYE.out hms hse)
            obtain ⟨Z, hown, HQA⟩ := HQ.out.open
            have HVK : Bx (∀ j, (Value.slice aQ P.length cQ).ownBlock = some j → w.heap.size ≤ j) := ⟨fun j hj => (hown.lt j hj).1⟩
            have HNV : Bx (0 < ni → ∀ q, ai = some q → True ∧ (Value.slice aQ P.length cQ).ownBlock ≠ some q.block) := ⟨fun h0 q e => ⟨trivial, fun e2 => by have h1 := HVK.out _ e2; have h2 := HLO.out h0 q e; omega⟩⟩
            have hbA : Below wr.heap.size wr (wr.alloc (.cells #[.string kk, .slice ai ni ci] 114)) := (Below.refl _ _).alloc (Nat.le_refl _) _
            have HNW := Bx.mk (World.news_of_block (heap_alloc_new wr (.cells #[.string kk, .slice ai ni ci] 114)))
            have HOA := Bx.mk (hown.alloc (.cells #[.string kk, .slice ai ni ci] 114))
            have HQA2 : Bx (QA (wr.alloc (.cells #[.string kk, .slice ai ni ci] 114)) (fun _ => True) (.slice aQ P.length cQ) P Z) := ⟨⟨HQA.out.z, fun z hz => ⟨(HQA.out.b z hz).1.below hbA, (HQA.out.b z hz).2⟩⟩⟩
            have HMJ : Bx (Bts (wr.alloc (.cells #[.string kk, .slice ai ni ci] 114)) ai ni ci vv) := ⟨HBT.out.below hbA⟩
            have HBW2 : Bx (Below w.heap.size w (wr.alloc (.cells #[.string kk, .slice ai ni ci] 114))) := ⟨bstep HB.out hbA⟩
            have HS9 : Bx ((wr.alloc (.cells #[.string kk, .slice ai ni ci] 114)).heap.size = wr.heap.size + 1) := ⟨by simp⟩
            rw [hpf]
            clear hown hbA HQ HQA hpf haf hse HYE HNO HFU HB HBT hms
            go_wp2_with (at_builtin; refine wpList_append_lies _ rfl (.tmp 48) (.tmp 56) 60 rfl w.heap.size 114 i0 (.agg #[.string ⟨#[]⟩, .slice none 0 0]) 2 40 Tryz.underlying60 hi hz0 hz1 hz2 rfl (by decide) _ P.length (Z.flatMap prE) rfl HOA.out ⟨wr.heap.size, 0, none⟩ 1 1 [.string kk, .slice ai ni ci] rfl rfl HNW.out (by simp [Value.oneCell']) (by decide) (by unfold maxLen; omega) (by omega) HBW2.out.size _ rfl ?_; intro g4 cap4 w4 hown4 hgr4 hl4 hlt4)
            have HP5 : Bx (QL w4 w.heap.size (fun _ => True) (.slice (some ⟨g4, 0, none⟩) (P.length + 1) cap4) (P ++ [(kk, vv)])) := ⟨HQA2.out.done (z := ⟨(kk, vv), ai, ni, ci⟩) rfl rfl HMJ.out HNV.out hown4 hgr4 (by rcases hl4 with h1 | h1; exact .inl h1; exact .inr (by have := HS9.out; omega))⟩
            have HB5 : Bx (Below w.heap.size w w4) := ⟨HBW2.out.grown hgr4 HBW2.out.size (fun j hj => HVK.out j hj)⟩
            rw [← HEQ.out] at HP5
            clear hown4 hgr4 hl4 HNW HVK HOA HQA2 HMJ HBW2 hlt4 HNV HEQ x0 x1 d2 hgt
            go_roundw
            case rel => exact ⟨j + 1, by omega, by go_num, HP5, HB5⟩
            case measure => simp [intOf]; omega
          · rw [decide_eq_false haf] at hgt
            have hse : sel front after (kk, vv) = false := by unfold sel; rw [decide_eq_false (show ¬ klt after (kk, vv).1 from haf), Bool.and_false]
            have HQ2 : Bx (QL wr w.heap.size (fun _ => True) (.slice aQ P.length cQ) (scP K front after most (j + 1))) := ⟨by rw [HNO.out hse]; exact HQ.out⟩
            rw [hpf]
            clear hpf haf hse HYE HNO HFU HQ hms
            go_wp2_with fail
            go_roundw
            case rel => exact ⟨j + 1, by omega, by go_num, HQ2, HB⟩
            case measure => simp [intOf]; omega
        · have hpf2 : Lib.hasPrefix kk.data.toList front.data.toList = false := by simpa using hpf
          have hse : sel front after (kk, vv) = false := by unfold sel; rw [show Lib.hasPrefix (kk, vv).1.data.toList front.data.toList = false from hpf2, Bool.false_and]
          have HQ2 : Bx (QL wr w.heap.size (fun _ => True) (.slice aQ P.length cQ) (scP K front after most (j + 1))) := ⟨by rw [HNO.out hse]; exact HQ.out⟩
          rw [hpf2]
          clear hpf hpf2 hse HYE HNO HFU HQ hms
          go_wp2_with fail
          go_roundw
          case rel => exact ⟨j + 1, by omega, by go_num, HQ2, HB⟩
          case measure => simp [intOf]; omega
      · have hmb : decide ((P.length : Int) < most) = false := decide_eq_false hms
        have HQ2 : Bx (QL wr w.heap.size (fun _ => True) (.slice aQ P.length cQ) (scP K front after most (j + 1))) := ⟨by rw [HFU.out hms]; exact HQ.out⟩
        clear HYE HNO HFU HQ hms
        go_wp2_with fail
        go_roundw
        case rel => exact ⟨j + 1, by omega, by go_num, HQ2, HB⟩
        case measure => simp [intOf]; omega
    · have hjI : ¬ (j : Int) < (n : Int) := by omega
      have HE := Bx.mk (scP_end K front after most j (by rw [HLL.out]; omega))
      obtain ⟨a', c', e', hpt⟩ := HQ.out.pt (fun _ _ => trivial)
      obtain ⟨rfl, rfl⟩ : aQ = a' ∧ cQ = c' := by cases e'; exact ⟨rfl, rfl⟩
      have HPT : Bx (PT (fun _ => True) wr aQ (scP K front after most j).length cQ (scL K front after most)) := ⟨by rw [← HE.out]; exact hpt⟩
      clear e' hpt HQ HE
      generalize (scP K front after most j).length = nP at HPT ⊢
      go_wp2_with fail
      go_ret
      exact ⟨_, _, _, rfl, HPT.out, HB.out⟩
end Go.Proofs.YtjnjokbdoendkaaGreat
