/- What Texts of a log answers. -/
import Derived.Test.YtjnjokbdoendkaaGreatWalTexts
namespace Go.Proofs.YtjnjokbdoendkaaGreat
open Go.RowKit
set_option linter.unusedVariables false

set_option maxRecDepth 100000 in
theorem Tryz.info22 : (Tryz.prog.info? 46).map (fun i => (i.zero, i.size, i.bytes)) = some (some (.slice none 0 0), 1, 24) := by kernel_rfl
set_option maxRecDepth 100000 in
theorem cell_one_new (w : World) (v : Value) (T : TypeId) : ∀ j u, [v][j]? = some u → (w.alloc (.cells #[v] T)).cell? ((⟨w.heap.size, 0, none⟩ : Addr).add j) = some u := World.news_of_block (heap_alloc_new w (.cells #[v] T))
set_option maxRecDepth 100000 in
theorem own_far {w : World} {base g n c : Nat} {a : Option Addr} {xs : List Value} (h : w.ownsRow base 5 1 (.slice a n c) n xs) (hg : g < base) : ∀ p, a = some p → p.block ≠ g := fun p hp e => by
  have := h.lt g (by rw [hp, ← e]; rfl)
  omega
set_option maxRecDepth 100000 in
theorem own_ge {w : World} {base n c : Nat} {a : Option Addr} {xs : List Value} (h : w.ownsRow base 5 1 (.slice a n c) n xs) : ∀ p, a = some p → base ≤ p.block ∧ p.block < w.heap.size := fun p hp => h.lt p.block (by rw [hp]; rfl)
set_option maxRecDepth 100000 in
theorem take_one (T : List (List Int)) (k : Nat) (h : k < T.length) : T.take (k + 1) = T.take k ++ [T.getD k []] := by
  rw [List.take_succ_eq_append_getElem h, List.getD_eq_getElem?_getD, List.getElem?_eq_getElem h]; rfl
set_option maxRecDepth 100000 in
theorem TL.lst {w : World} {own : Nat → Prop} {v : Value} {L M : List (List Int)} (h : TL w own v L) (e : L = M) : TL w own v M := by rw [← e]; exact h
/-- an append to an own list of texts: what it asks, what it gives -/
structure TA (w : World) (own : Nat → Prop) (v : Value) (L : List (List Int)) (xs : List Value) : Prop where
  tl : TL w own v L
  hx : ∀ i, i < L.length → ∃ ai li ci, xs[i]? = some (.slice ai li ci) ∧ Bts w ai li ci (L.getD i []) ∧ (0 < li → ∀ p, ai = some p → own p.block ∧ v.ownBlock ≠ some p.block)
  hxl : xs.length = L.length
set_option maxRecDepth 100000 in
theorem TL.open {w : World} {own : Nat → Prop} {v : Value} {L : List (List Int)} (h : TL w own v L) : ∃ xs, w.ownsRow 0 46 1 v L.length xs ∧ Bx (TA w own v L xs) := by
  obtain ⟨xs, h1, h2⟩ := h.row
  exact ⟨xs, h1, ⟨h, h2, by have := h1.1; omega⟩⟩
set_option maxRecDepth 100000 in
theorem TA.done {w w' : World} {own own2 : Nat → Prop} {v : Value} {L : List (List Int)} {xs : List Value} {a : Option Addr} {n c g cap m : Nat} {l : List Int} (h : TA w own v L xs) (hm : m = L.length) (hbt : Bts w a n c l) (hne : 0 < n → ∀ p, a = some p → own2 p.block ∧ v.ownBlock ≠ some p.block)
    (ho : w'.ownsRow 0 46 1 (.slice (some ⟨g, 0, none⟩) (m + 1) cap) (m + 1) (xs ++ [.slice a n c])) (hg : (w.alloc (.cells #[.slice a n c] 46)).grownBy w' v.ownBlock) (hl : v.ownBlock = some g ∨ g = (w.alloc (.cells #[.slice a n c] 46)).heap.size)
    (ho2 : ∀ k, own k → own2 k) (hg2 : own2 g) : TL w' own2 (.slice (some ⟨g, 0, none⟩) (m + 1) cap) (L ++ [l]) := by
  subst hm
  exact TL.app h.tl h.hx h.hxl hbt hne rfl ho hg hl ho2 hg2
set_option maxRecDepth 100000 in
set_option maxHeartbeats 1000000 in
theorem texts_any (gl gd : Nat) (own : Nat → Prop) (L : LS) (w : World) (h : Lg w gl own gd L) :
    Calls Tryz.prog 35 #[.pointer (some ⟨gl, 0, none⟩)] w fun e w' => ∃ v, e = .returned v ∧ TL w' (fun k => w.heap.size ≤ k ∧ k < w'.heap.size) v L.T ∧ Below w.heap.size w w' := by
  obtain ⟨vt, hR⟩ := h
  have c1 := hR.c1
  have H0 : Bx _ := ⟨hR.c0⟩
  have HTO : Bx (TOk L.T) := ⟨hR.ok⟩
  have hTn : L.T.length ≤ 4096 := Nat.le_trans hR.tn hR.n2
  obtain ⟨a, c, rfl, hTx⟩ := hR.tl.txs
  have HTX : Bx (Txs w a L.T.length c L.T) := ⟨hTx⟩
  have hcm := hTx.cap_le
  have hcl := hTx.le_cap
  unfold maxLen at hcm
  clear hR hTx
  obtain ⟨N, hN⟩ : ∃ N, N = w.heap.size := ⟨_, rfl⟩
  have HN : Hid (N = w.heap.size) := hN
  have hst : TL w (fun k => N ≤ k) (.slice none 0 0) (L.T.take 0) ∧ Below N w w := ⟨TL.nil _ _, Below.refl _ _⟩
  clear hN
  obtain ⟨n, HNL⟩ : ∃ n, Bx (n = L.T.length) := ⟨_, ⟨rfl⟩⟩
  rw [← HNL.out] at c1 HTX hTn hcl
  go_enter Tryz.func35, Tryz.ntmps35
  go_wp2_with fail
  refine (lmade_yes gl gd _ H0.out).mono ?_
  rintro e w' ⟨rfl, rfl⟩
  go_wp2
  go_loopw [3, 14] (fun v i wr => ∃ k : Nat, k ≤ n ∧ i = .int .i64 k ∧ TL wr (fun k => N ≤ k) v (L.T.take k) ∧ Below N w wr) (fun _ i _ => n - (intOf i).toNat)
  case atStart => exact ⟨0, Nat.zero_le _, rfl, hst⟩
  case round =>
    clear hst
    obtain ⟨k, hk, rfl, hT, hlow⟩ := hrel
    obtain ⟨vAll, hvAll⟩ : ∃ vAll, vAll = u3 := ⟨_, rfl⟩
    subst hvAll
    have hbw : Below w.heap.size w wr := by rw [← HN.out]; exact hlow
    by_cases hlt : k < n
    · have hkI : (k : Int) < (n : Int) := by omega
      obtain ⟨b, off, rfl, _, hc⟩ := (HTX.out.below hbw).spot (by omega)
      obtain ⟨ai, li, ci, hcell, hbt⟩ := hc k hlt
      have hli : li ≤ 16384 := by
        rw [← hbt.len_eq, List.getD_eq_getElem?_getD, List.getElem?_eq_getElem (by rw [← HNL.out]; exact hlt)]
        exact (HTO.out _ (List.getElem_mem _)).1
      have HMO : Bx (L.T.take (k + 1) = L.T.take k ++ [L.T.getD k []]) := ⟨take_one _ _ (by rw [← HNL.out]; exact hlt)⟩
      have HLL : Bx (k = (L.T.take k).length) := ⟨by rw [List.length_take, ← HNL.out]; omega⟩
      generalize L.T.getD k [] = y at hbt HMO
      clear hc
      go_wp2_with fail
      refine (clone_any ai li ci y _ hbt (by omega)).mono ?_
      rintro e w3 ⟨v3, rfl, hown3, hb3⟩
      obtain ⟨a3, c3, rfl, hm3⟩ := Bts.of_owns hown3 hbt.byt
      have HFAR : Bx (0 < li → ∀ p, a3 = some p → N ≤ p.block ∧ vAll.ownBlock ≠ some p.block) := ⟨fun hp p e => by
        have h1 := own_ge hown3 p e
        refine ⟨by have := hbw.size; rw [HN.out]; omega, fun e2 => ?_⟩
        obtain ⟨xs, ho, _⟩ := hT.row
        have := (ho.lt p.block e2).2
        omega⟩
      have hlow3 : Below N w w3 := hlow.trans (hb3.mono (by rw [HN.out]; exact hbw.size))
      have hs3 : N ≤ w3.heap.size := by have := hb3.size; have := hbw.size; rw [HN.out]; omega
      have hvb : ∀ j, vAll.ownBlock = some j → N ≤ j := fun j hj => hT.ob j hj
      obtain ⟨xs, hown, HTA⟩ := (hT.below hb3).open
      rw [← HLL.out] at hown
      have HM3 : Bx _ := ⟨hm3⟩
      have HLOW : Bx _ := ⟨hlow3⟩
      have HVB : Bx _ := ⟨hvb⟩
      obtain ⟨i0, hi, hz0, hz1, hz2⟩ := info_parts Tryz.info22
      clear hT hown3 hb3 hbt hcell hm3 hbw hlow hlow3 hvb
      go_wp2_with (at_builtin; refine wpList_append_lies _ rfl (.tmp 18) (.tmp 21) 57 rfl 0 46 i0 (.slice none 0 0) 1 24 Tryz.underlying57 hi hz0 hz1 hz2 rfl (by decide) _ k xs rfl (hown.alloc _) ⟨w3.heap.size, 0, none⟩ 1 1 [.slice a3 li c3] rfl rfl (cell_one_new _ _ _) (by simp [Value.oneCell']) (by decide) (by unfold maxLen; omega) (by omega) (Nat.zero_le _) _ rfl ?_; intro g4 cap4 w4 hown4 hgr4 hl4 _)
      have hbig : (w3.alloc (.cells #[.slice a3 li c3] 46)).heap.size = w3.heap.size + 1 := by simp
      have hg4 : N ≤ g4 := by
        rcases hl4 with h1 | h1
        · exact HVB.out g4 h1
        · rw [h1, hbig]; omega
      have hT4 := HTA.out.done HLL.out HM3.out HFAR.out hown4 hgr4 hl4 (fun _ h => h) hg4
      have hK4 : Below N w w4 := (HLOW.out.alloc hs3 _).grown hgr4 (by rw [hbig]; omega) HVB.out
      rw [← HMO.out] at hT4
      clear hown4 hgr4 hl4 hown hi hz0 hz1 hz2 hbig hg4
      go_roundw
      case rel => exact ⟨k + 1, by omega, by go_num, hT4, hK4⟩
      case measure => simp [intOf]; omega
    · have hkn : k = n := by omega
      have hT9 := hT.lst (M := L.T) (by rw [hkn, HNL.out]; exact List.take_length)
      clear hT
      have hT8 : TL wr (fun k => w.heap.size ≤ k ∧ k < wr.heap.size) vAll L.T := hT9.keep (fun _ _ _ => rfl) (Nat.le_refl _) (fun k hk ho => ⟨by rw [← HN.out]; exact ho, hk⟩)
      clear hT9 hkn
      go_wp2
      go_ret
      exact ⟨_, rfl, hT8, hbw⟩
end Go.Proofs.YtjnjokbdoendkaaGreat
