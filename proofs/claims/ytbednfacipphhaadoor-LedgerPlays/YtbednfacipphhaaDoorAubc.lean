/- Lists of texts in memory: the document's Few and Same of them. Lists of texts held against one another, whatever they are: the document's own. -/
import Derived.Test.YtbednfacipphhaaDoorAuas
import Derived.Test.YtbednfacipphhaaDoorAuan
import Derived.Deep.AppendLies
namespace Go.Proofs.YtbednfacipphhaaDoor
open Go.RowKit
set_option linter.unusedVariables false

/-- the slice reads as the texts T in the world w -/
structure Txs (w : World) (ao : Option Addr) (len cap : Nat) (T : List (List Int)) : Prop where
  len_eq : T.length = len
  le_cap : len ≤ cap
  cap_le : cap ≤ maxLen
  spot : 0 < len → ∃ b off, ao = some ⟨b, off, none⟩ ∧ b < w.heap.size ∧ ∀ i, i < len → ∃ ai li ci, w.cell? ⟨b, off + i, none⟩ = some (.slice ai li ci) ∧ Bts w ai li ci (T.getD i [])
set_option maxRecDepth 100000 in
theorem Txs.below {w w' : World} {ao : Option Addr} {len cap : Nat} {T : List (List Int)} (h : Txs w ao len cap T) (hb : Below w.heap.size w w') : Txs w' ao len cap T :=
  ⟨h.len_eq, h.le_cap, h.cap_le, fun hp => by
    obtain ⟨b, off, e, hlt, hc⟩ := h.spot hp
    refine ⟨b, off, e, Nat.lt_of_lt_of_le hlt hb.size, fun i hi => ?_⟩
    obtain ⟨ai, li, ci, h1, h2⟩ := hc i hi
    exact ⟨ai, li, ci, (hb.cell hlt).trans h1, h2.below hb⟩⟩
set_option maxRecDepth 100000 in
theorem Txs.drewN {w : World} {ao : Option Addr} {len cap : Nat} {T : List (List Int)} (h : Txs w ao len cap T) (n : Nat) : Txs (w.drewN n) ao len cap T :=
  ⟨h.len_eq, h.le_cap, h.cap_le, fun hp => by
    obtain ⟨b, off, e, hlt, hc⟩ := h.spot hp
    refine ⟨b, off, e, hlt, fun i hi => ?_⟩
    obtain ⟨ai, li, ci, h1, h2⟩ := hc i hi
    exact ⟨ai, li, ci, h1, h2.drewN n⟩⟩
set_option maxRecDepth 100000 in
theorem Bts.grown {w w' : World} {a : Option Addr} {n c : Nat} {l : List Int} {row : Option Nat} (h : Bts w a n c l) (hg : w.grownBy w' row) (hne : 0 < n → ∀ p, a = some p → row ≠ some p.block) : Bts w' a n c l :=
  ⟨h.len_eq, h.byt, h.le_cap, h.cap_le, h.nil, fun hp => by
    obtain ⟨b, off, e, hlt, hc⟩ := h.spot hp
    have hn := hne hp _ e
    exact ⟨b, off, e, Nat.lt_of_lt_of_le hlt hg.size, fun i hi => (World.cell?_of_block (w := w) (hg.block b hlt (Ne.symm hn))).trans (hc i hi)⟩⟩
/-- an own list of texts, each in memory of its own -/
structure OT (base : Nat) (v : Value) (L : List (List Int)) (w wr : World) : Prop where
  low : Below base w wr
  size : base ≤ wr.heap.size
  own : ∃ xs, wr.ownsRow base 22 1 v L.length xs ∧ ∀ i, i < L.length → ∃ ai li ci, xs[i]? = some (.slice ai li ci) ∧ Bts wr ai li ci (L.getD i []) ∧ (0 < li → ∀ p, ai = some p → v.ownBlock ≠ some p.block)
set_option maxRecDepth 100000 in
theorem OT.step {base : Nat} {v : Value} {L : List (List Int)} {w wr w1 : World} (h : OT base v L w wr) (hb : Below wr.heap.size wr w1) : OT base v L w w1 := by
  obtain ⟨xs, ho, hx⟩ := h.own
  refine ⟨h.low.trans (hb.mono h.size), Nat.le_trans h.size hb.size, xs, owns_below ho hb, fun i hi => ?_⟩
  obtain ⟨ai, li, ci, e1, e2, e3⟩ := hx i hi
  exact ⟨ai, li, ci, e1, e2.below hb, e3⟩
set_option maxRecDepth 100000 in
theorem OT.app {base g cap : Nat} {v : Value} {L : List (List Int)} {l : List Int} {a : Option Addr} {n c : Nat} {xs : List Value} {w wr wB w' : World} (h : OT base v L w wr) (hbt : Bts wr a n c l) (hne : 0 < n → ∀ p, a = some p → v.ownBlock ≠ some p.block)
    (hB : wB = wr.alloc (.cells #[.slice a n c] 22)) (hxs : ∀ i, i < L.length → ∃ ai li ci, xs[i]? = some (.slice ai li ci) ∧ Bts wr ai li ci (L.getD i []) ∧ (0 < li → ∀ p, ai = some p → v.ownBlock ≠ some p.block)) (hxl : xs.length = L.length)
    (hv : ∀ k, v.ownBlock = some k → base ≤ k) (ho : w'.ownsRow base 22 1 (.slice (some ⟨g, 0, none⟩) (L.length + 1) cap) (L.length + 1) (xs ++ [.slice a n c])) (hg : wB.grownBy w' v.ownBlock) (hl : v.ownBlock = some g ∨ g = wB.heap.size) : OT base (.slice (some ⟨g, 0, none⟩) (L.length + 1) cap) (L ++ [l]) w w' := by
  have hb : Below wr.heap.size wr wB := by rw [hB]; exact (Below.refl _ _).alloc (Nat.le_refl _) _
  have hlow : Below base w wB := h.low.trans (hb.mono h.size)
  have hfar : ∀ {ai : Option Addr} {li ci : Nat} {y : List Int}, Bts wr ai li ci y → (0 < li → ∀ p, ai = some p → v.ownBlock ≠ some p.block) → Bts w' ai li ci y ∧ (0 < li → ∀ p, ai = some p → (Value.slice (some ⟨g, 0, none⟩) (L.length + 1) cap).ownBlock ≠ some p.block) := by
    intro ai li ci y hy hn
    refine ⟨(hy.below hb).grown hg hn, fun hp p e => ?_⟩
    show some g ≠ some p.block
    rcases hl with h1 | h1
    · rw [← h1]; exact hn hp p e
    · intro e2
      obtain ⟨b, off, e3, hlt, _⟩ := hy.spot hp
      rw [e3] at e; cases e
      have e4 : g = b := Option.some.inj e2
      have := hb.size
      omega
  refine ⟨hlow.grown hg (Nat.le_trans h.size hb.size) hv, Nat.le_trans (Nat.le_trans h.size hb.size) hg.size, xs ++ [.slice a n c], by rw [List.length_append]; exact ho, fun i hi => ?_⟩
  rw [List.length_append] at hi
  by_cases hiL : i < L.length
  · obtain ⟨ai, li, ci, e1, e2, e3⟩ := hxs i hiL
    obtain ⟨f1, f2⟩ := hfar e2 e3
    refine ⟨ai, li, ci, by rw [List.getElem?_append_left (by omega)]; exact e1, ?_, f2⟩
    rw [List.getD_eq_getElem?_getD, List.getElem?_append_left hiL, ← List.getD_eq_getElem?_getD]; exact f1
  · obtain rfl : i = L.length := by simp at hi; omega
    obtain ⟨f1, f2⟩ := hfar hbt hne
    refine ⟨a, n, c, by rw [List.getElem?_append_right (by omega), hxl, Nat.sub_self]; rfl, ?_, f2⟩
    rw [List.getD_eq_getElem?_getD, List.getElem?_append_right (Nat.le_refl _), Nat.sub_self]; exact f1
set_option maxRecDepth 100000 in
theorem OT.txs {base : Nat} {v : Value} {L : List (List Int)} {w wr : World} (h : OT base v L w wr) : ∃ a c, v = .slice a L.length c ∧ Txs wr a L.length c L := by
  obtain ⟨xs, ho, hx⟩ := h.own
  rcases ho.2 with ⟨rfl, h0⟩ | ⟨g, cap, cur, rfl, hb, hg, hnc, hcm, hcs, ht⟩
  · exact ⟨none, 0, by rw [h0], rfl, by omega, Nat.zero_le _, fun hp => by omega⟩
  · refine ⟨some ⟨g, 0, none⟩, cap, rfl, rfl, hnc, hcm, fun hp => ⟨g, 0, rfl, (Array.getElem?_eq_some_iff.1 hg).1, fun i hi => ?_⟩⟩
    obtain ⟨ai, li, ci, e1, e2, _⟩ := hx i hi
    refine ⟨ai, li, ci, ?_, e2⟩
    rw [Nat.zero_add, ho.cellAt i (by omega)]; exact e1
set_option maxRecDepth 100000 in
theorem Tryd.info22 : (Tryd.prog.info? 22).map (fun i => (i.zero, i.size, i.bytes)) = some (some (.slice none 0 0), 1, 24) := by kernel_rfl
set_option maxRecDepth 100000 in
theorem own_far {w : World} {base g n c : Nat} {a : Option Addr} {xs : List Value} (h : w.ownsRow base 5 1 (.slice a n c) n xs) (hg : g < base) : 0 < n → ∀ p, a = some p → p.block ≠ g := fun _ p hp e => by
  have := h.lt g (by rw [hp, ← e]; rfl)
  omega
/-- the first k texts, each cut -/
def fewT (T : List (List Int)) (k n : Nat) : List (List Int) := (T.take k).map (·.take n)
set_option maxRecDepth 100000 in
theorem fewT_len (T : List (List Int)) (k n : Nat) : (fewT T k n).length = min k T.length := by unfold fewT; rw [List.length_map, List.length_take]
set_option maxRecDepth 100000 in
theorem fewT_fit (T : List (List Int)) (k n : Nat) : ∀ t ∈ fewT T k n, t.length ≤ n := by
  intro t ht
  obtain ⟨u, _, rfl⟩ := List.mem_map.1 ht
  rw [List.length_take]; omega
set_option maxRecDepth 100000 in
theorem fewT_again (T : List (List Int)) (k n : Nat) : fewT (fewT T k n) k n = fewT T k n := by
  have h : ∀ t ∈ fewT T k n, t.take n = t := fun t ht => List.take_of_length_le (fewT_fit T k n t ht)
  have h1 : (fewT T k n).take k = fewT T k n := List.take_of_length_le (by rw [fewT_len]; omega)
  show ((fewT T k n).take k).map (·.take n) = _
  rw [h1]
  exact (List.map_congr_left h).trans (List.map_id _)
set_option maxRecDepth 100000 in
theorem cut_more (T : List (List Int)) (n k : Nat) (hk : k < T.length) : fewT T (k + 1) n = fewT T k n ++ [(T.getD k []).take n] := by
  unfold fewT
  rw [List.take_succ_eq_append_getElem hk, List.map_append, List.getD_eq_getElem?_getD, List.getElem?_eq_getElem hk]; rfl

set_option maxRecDepth 100000 in
set_option maxHeartbeats 1000000 in
theorem tsame_yes (a b : Option Addr) (n c d : Nat) (T : List (List Int)) (w : World) (ha : Txs w a n c T) (hb : Txs w b n d T) :
    Calls Tryd.prog 16 #[.slice a n c, .slice b n d] w fun e w' => e = .returned (.bool true) ∧ ∃ q, w' = w.drewN q := by
  have hc1 := ha.le_cap
  have hc2 := ha.cap_le
  unfold maxLen at hc2
  have hq : ((n : Int) != (n : Int)) = false := by simp
  go_enter Tryd.func16, Tryd.ntmps16
  go_wp2
  go_loopw [5] (fun i wr => ∃ k q : Nat, k ≤ n ∧ i = .int .i64 k ∧ wr = w.drewN q) (fun i _ => n - (intOf i).toNat)
  case atStart => exact ⟨0, 0, Nat.zero_le _, rfl, rfl⟩
  case round =>
    obtain ⟨k, q, hk, rfl, hwr⟩ := hrel
    have HW : Hid (wr = w.drewN q) := hwr
    by_cases hlt : k < n
    · have ha1 : Txs wr a n c T := by rw [hwr]; exact ha.drewN q
      have hb1 : Txs wr b n d T := by rw [hwr]; exact hb.drewN q
      clear hwr
      obtain ⟨b1, o1, rfl, _, h1⟩ := ha1.spot (by omega)
      obtain ⟨b2, o2, rfl, _, h2⟩ := hb1.spot (by omega)
      obtain ⟨ai, li, ci, r1, t1⟩ := h1 k hlt
      obtain ⟨aj, lj, cj, r2, t2⟩ := h2 k hlt
      generalize T.getD k [] = t at t1 t2
      have hki : (k : Int) < (n : Int) := by omega
      clear h1 h2 ha1 hb1
      have hk : wr.drew.cell? ⟨b1, o1 + k, none⟩ = some (.slice ai li ci) ∧ wr.drew.cell? ⟨b2, o2 + k, none⟩ = some (.slice aj lj cj) ∧ Bts wr.drew ai li ci t ∧ Bts wr.drew aj lj cj t := ⟨r1, r2, t1.drewN 1, t2.drewN 1⟩
      have HQ : Hid (wr.drew = w.drewN (q + 1)) := by show _ = _; rw [HW.out]; rfl
      clear r1 r2 HW t1 t2
      go_wp2_with fail
      refine wp_region_held_drew (S := fun W => W.cell? ⟨b1, o1 + k, none⟩ = some (.slice ai li ci) ∧ W.cell? ⟨b2, o2 + k, none⟩ = some (.slice aj lj cj) ∧ Bts W ai li ci t ∧ Bts W aj lj cj t) (by kernel_rfl) hk (fun _ => ?_)
      generalize wr.drew = wd at hk HQ ⊢
      refine wpAnyH_take (i := 0) (oi := { dst := some 17, op := Op.move (Operand.tmp 0), type := 28, pos := "ref.go:48", after := #[], guard := none }) (v := ?vtsame1) rfl (by kernel_rfl) (by kernel_rfl) (by kernel_rfl) (fun _ _ _ h => h) (Or.inl ⟨by rfl, ?ytsame1⟩) hk ?rtsame1
      case ytsame1 => (intro w hSw; (try dsimp only at hSw); go_simp; first | done | with_reducible rfl)
      simp only [Act.put, List.setIfInBounds_toArray, List.set_cons_zero, List.set_cons_succ]
      refine wpAnyH_take (i := 1) (oi := { dst := some 18, op := Op.move (Operand.tmp 5), type := 3, pos := "ref.go:48", after := #[], guard := none }) (v := ?vtsame2) rfl (by kernel_rfl) (by kernel_rfl) (by kernel_rfl) (fun _ _ _ h => h) (Or.inl ⟨by rfl, ?ytsame2⟩) hk ?rtsame2
      case ytsame2 => (intro w hSw; (try dsimp only at hSw); go_simp; first | done | with_reducible rfl)
      simp only [Act.put, List.setIfInBounds_toArray, List.set_cons_zero, List.set_cons_succ]
      refine wpAnyH_take (i := 2) (oi := { dst := some 19, op := Op.indexAddr 28 (Operand.tmp 17) (Operand.tmp 18), type := 0, pos := "ref.go:48", after := #[{ on := 0, ground := Ground.data }, { on := 1, ground := Ground.data }], guard := none }) (v := ?vtsame3) rfl (by kernel_rfl) (by kernel_rfl) (by kernel_rfl) (fun _ _ _ h => h) (Or.inl ⟨by rfl, ?ytsame3⟩) hk ?rtsame3
      case ytsame3 => (intro w hSw; (try dsimp only at hSw); go_simp; first | done | with_reducible rfl)
      simp only [Act.put, List.setIfInBounds_toArray, List.set_cons_zero, List.set_cons_succ]
      refine wpAnyH_take (i := 3) (oi := { dst := some 20, op := Op.load 22 (Operand.tmp 19), type := 22, pos := "ref.go:48", after := #[{ on := 2, ground := Ground.data }], guard := none }) (v := ?vtsame4) rfl (by kernel_rfl) (by kernel_rfl) (by kernel_rfl) (fun _ _ _ h => h) (Or.inl ⟨by rfl, ?ytsame4⟩) hk ?rtsame4
      case ytsame4 => (intro w hSw; have hcw := hSw.1; clear hSw; go_simp; first | done | with_reducible rfl)
      simp only [Act.put, List.setIfInBounds_toArray, List.set_cons_zero, List.set_cons_succ]
      refine wpAnyH_take (i := 4) (oi := { dst := some 21, op := Op.move (Operand.tmp 1), type := 28, pos := "ref.go:48", after := #[], guard := none }) (v := ?vtsame5) rfl (by kernel_rfl) (by kernel_rfl) (by kernel_rfl) (fun _ _ _ h => h) (Or.inl ⟨by rfl, ?ytsame5⟩) hk ?rtsame5
      case ytsame5 => (intro w hSw; (try dsimp only at hSw); go_simp; first | done | with_reducible rfl)
      simp only [Act.put, List.setIfInBounds_toArray, List.set_cons_zero, List.set_cons_succ]
      refine wpAnyH_take (i := 5) (oi := { dst := some 22, op := Op.move (Operand.tmp 5), type := 3, pos := "ref.go:48", after := #[], guard := none }) (v := ?vtsame6) rfl (by kernel_rfl) (by kernel_rfl) (by kernel_rfl) (fun _ _ _ h => h) (Or.inl ⟨by rfl, ?ytsame6⟩) hk ?rtsame6
      case ytsame6 => (intro w hSw; (try dsimp only at hSw); go_simp; first | done | with_reducible rfl)
      simp only [Act.put, List.setIfInBounds_toArray, List.set_cons_zero, List.set_cons_succ]
      refine wpAnyH_take (i := 6) (oi := { dst := some 23, op := Op.indexAddr 28 (Operand.tmp 21) (Operand.tmp 22), type := 0, pos := "ref.go:48", after := #[{ on := 4, ground := Ground.data }, { on := 5, ground := Ground.data }], guard := none }) (v := ?vtsame7) rfl (by kernel_rfl) (by kernel_rfl) (by kernel_rfl) (fun _ _ _ h => h) (Or.inl ⟨by rfl, ?ytsame7⟩) hk ?rtsame7
      case ytsame7 => (intro w hSw; (try dsimp only at hSw); go_simp; first | done | with_reducible rfl)
      simp only [Act.put, List.setIfInBounds_toArray, List.set_cons_zero, List.set_cons_succ]
      refine wpAnyH_take (i := 7) (oi := { dst := some 24, op := Op.load 22 (Operand.tmp 23), type := 22, pos := "ref.go:48", after := #[{ on := 6, ground := Ground.data }], guard := none }) (v := ?vtsame8) rfl (by kernel_rfl) (by kernel_rfl) (by kernel_rfl) (fun _ _ _ h => h) (Or.inl ⟨by rfl, ?ytsame8⟩) hk ?rtsame8
      case ytsame8 => (intro w hSw; have hcw := hSw.2.1; clear hSw; go_simp; first | done | with_reducible rfl)
      simp only [Act.put, List.setIfInBounds_toArray, List.set_cons_zero, List.set_cons_succ]
      refine wpAnyH_ready (rs := [8]) (by decide +kernel) (by simp) ?_
      refine AllReadyH.cons (o := { dst := some 25, op := Op.call { callee := Callee.value (Operand.func 21), args := #[Operand.tmp 20, Operand.tmp 24], argTypes := #[22, 22] }, type := 4, pos := "ref.go:48", after := #[{ on := 3, ground := Ground.data }, { on := 7, ground := Ground.data }], guard := none }) rfl (fun K hK => ?_) AllReadyH.nil
      go_simp
      refine (same_yes ai aj li lj ci cj t _ hk.2.2.1 hk.2.2.2).mono ?_
      rintro e1 w8 ⟨rfl, q8, hq8⟩
      replace hk : w8.cell? ⟨b1, o1 + k, none⟩ = some (.slice ai li ci) ∧ w8.cell? ⟨b2, o2 + k, none⟩ = some (.slice aj lj cj) ∧ Bts w8 ai li ci t ∧ Bts w8 aj lj cj t := by rw [hq8]; exact ⟨hk.1, hk.2.1, hk.2.2.1.drewN q8, hk.2.2.2.drewN q8⟩
      replace HQ : Hid (w8 = w.drewN (q + 1 + q8)) := by show _ = _; rw [hq8, HQ.out]; simp
      clear hq8
      refine hK.out _ _ hk (fun _ => ?_)
      clear hK K
      try simp only [Act.put, List.setIfInBounds_toArray, List.set_cons_zero, List.set_cons_succ]
      refine wpAnyH_take (i := 9) (oi := { dst := some 26, op := Op.unOp UnOp.not 4 (Operand.tmp 25), type := 4, pos := "ref.go:48", after := #[{ on := 8, ground := Ground.data }], guard := none }) (v := ?vtsame9) rfl (by kernel_rfl) (by kernel_rfl) (by kernel_rfl) (fun _ _ _ h => h) (Or.inl ⟨by rfl, ?ytsame9⟩) hk ?rtsame9
      case ytsame9 => (intro w hSw; (try dsimp only at hSw); go_simp; first | done | with_reducible rfl)
      simp only [Act.put, List.setIfInBounds_toArray, List.set_cons_zero, List.set_cons_succ]
      refine wpAnyH_done (by decide +kernel) ?_ _
      clear hk
      go_wp2
      go_roundw
      case rel => exact ⟨k + 1, _, by omega, by go_num, HQ.out⟩
      case measure => simp [intOf]; omega
    · clear hwr
      go_wp2
      go_ret
      exact ⟨rfl, q, HW.out⟩
end Go.Proofs.YtbednfacipphhaaDoor
namespace Go.Proofs.YtbednfacipphhaaDoor
open Go.RowKit
set_option linter.unusedVariables false

set_option maxRecDepth 100000 in
theorem take_both {S T : List (List Int)} {k : Nat} (hs : k < S.length) (ht : k < T.length) (h : S.take k = T.take k) (he : S.getD k [] = T.getD k []) : S.take (k + 1) = T.take (k + 1) := by
  rw [List.take_succ_eq_append_getElem hs, List.take_succ_eq_append_getElem ht, h]
  congr 2
  rw [List.getD_eq_getElem?_getD, List.getElem?_eq_getElem hs, List.getD_eq_getElem?_getD, List.getElem?_eq_getElem ht] at he
  exact he
set_option maxRecDepth 100000 in
set_option maxHeartbeats 1000000 in
theorem tsame_any (a b : Option Addr) (n m c d : Nat) (S T : List (List Int)) (w : World) (ha : Txs w a n c S) (hb : Txs w b m d T) :
    Calls Tryd.prog 16 #[.slice a n c, .slice b m d] w fun e w' => e = .returned (.bool (decide (S = T))) ∧ ∃ q, w' = w.drewN q := by
  have HSL : Bx (S.length = n) := ⟨ha.len_eq⟩
  have HTL : Bx (T.length = m) := ⟨hb.len_eq⟩
  by_cases hnm : n = m
  · subst hnm
    have hc1 := ha.le_cap
    have hc2 := ha.cap_le
    unfold maxLen at hc2
    have hq : ((n : Int) != (n : Int)) = false := by simp
    have HA := Bx.mk ha
    have HBB := Bx.mk hb
    clear ha hb
    go_enter Tryd.func16, Tryd.ntmps16
    go_wp2
    go_loopw [5] (fun i wr => ∃ k q : Nat, k ≤ n ∧ i = .int .i64 k ∧ wr = w.drewN q ∧ Bx (S.take k = T.take k)) (fun i _ => n - (intOf i).toNat)
    case atStart => exact ⟨0, 0, Nat.zero_le _, rfl, rfl, ⟨by simp⟩⟩
    case round =>
      obtain ⟨k, q, hk, rfl, hwr, HE⟩ := hrel
      have HW : Hid (wr = w.drewN q) := hwr
      by_cases hlt : k < n
      · have ha1 : Txs wr a n c S := by rw [hwr]; exact HA.out.drewN q
        have hb1 : Txs wr b n d T := by rw [hwr]; exact HBB.out.drewN q
        clear hwr
        obtain ⟨b1, o1, rfl, _, h1⟩ := ha1.spot (by omega)
        obtain ⟨b2, o2, rfl, _, h2⟩ := hb1.spot (by omega)
        obtain ⟨ai, li, ci, r1, t1⟩ := h1 k hlt
        obtain ⟨aj, lj, cj, r2, t2⟩ := h2 k hlt
        have hki : (k : Int) < (n : Int) := by omega
        have HQ : Hid (wr.drew = w.drewN (q + 1)) := by show _ = _; rw [HW.out]; rfl
        clear h1 h2 ha1 hb1 HW
        by_cases heq : S.getD k [] = T.getD k []
        · have HE2 : Bx (S.take (k + 1) = T.take (k + 1)) := ⟨take_both (by rw [HSL.out]; exact hlt) (by rw [HTL.out]; exact hlt) HE.out heq⟩
          rw [← heq] at t2
          generalize S.getD k [] = t at t1 t2
          have hk : wr.drew.cell? ⟨b1, o1 + k, none⟩ = some (.slice ai li ci) ∧ wr.drew.cell? ⟨b2, o2 + k, none⟩ = some (.slice aj lj cj) ∧ Bts wr.drew ai li ci t ∧ Bts wr.drew aj lj cj t := ⟨r1, r2, t1.drewN 1, t2.drewN 1⟩
          clear r1 r2 t1 t2 heq
          go_wp2_with fail
          refine wp_region_held_drew (S := fun W => W.cell? ⟨b1, o1 + k, none⟩ = some (.slice ai li ci) ∧ W.cell? ⟨b2, o2 + k, none⟩ = some (.slice aj lj cj) ∧ Bts W ai li ci t ∧ Bts W aj lj cj t) (by kernel_rfl) hk (fun _ => ?_)
          generalize wr.drew = wd at hk HQ ⊢
          refine wpAnyH_take (i := 0) (oi := { dst := some 17, op := Op.move (Operand.tmp 0), type := 28, pos := "ref.go:48", after := #[], guard := none }) (v := ?vtsame1) rfl (by kernel_rfl) (by kernel_rfl) (by kernel_rfl) (fun _ _ _ h => h) (Or.inl ⟨by rfl, ?ytsame1⟩) hk ?rtsame1
          case ytsame1 => (intro w hSw; (try dsimp only at hSw); go_simp; first | done | with_reducible rfl)
          simp only [Act.put, List.setIfInBounds_toArray, List.set_cons_zero, List.set_cons_succ]
          refine wpAnyH_take (i := 1) (oi := { dst := some 18, op := Op.move (Operand.tmp 5), type := 3, pos := "ref.go:48", after := #[], guard := none }) (v := ?vtsame2) rfl (by kernel_rfl) (by kernel_rfl) (by kernel_rfl) (fun _ _ _ h => h) (Or.inl ⟨by rfl, ?ytsame2⟩) hk ?rtsame2
          case ytsame2 => (intro w hSw; (try dsimp only at hSw); go_simp; first | done | with_reducible rfl)
          simp only [Act.put, List.setIfInBounds_toArray, List.set_cons_zero, List.set_cons_succ]
          refine wpAnyH_take (i := 2) (oi := { dst := some 19, op := Op.indexAddr 28 (Operand.tmp 17) (Operand.tmp 18), type := 0, pos := "ref.go:48", after := #[{ on := 0, ground := Ground.data }, { on := 1, ground := Ground.data }], guard := none }) (v := ?vtsame3) rfl (by kernel_rfl) (by kernel_rfl) (by kernel_rfl) (fun _ _ _ h => h) (Or.inl ⟨by rfl, ?ytsame3⟩) hk ?rtsame3
          case ytsame3 => (intro w hSw; (try dsimp only at hSw); go_simp; first | done | with_reducible rfl)
          simp only [Act.put, List.setIfInBounds_toArray, List.set_cons_zero, List.set_cons_succ]
          refine wpAnyH_take (i := 3) (oi := { dst := some 20, op := Op.load 22 (Operand.tmp 19), type := 22, pos := "ref.go:48", after := #[{ on := 2, ground := Ground.data }], guard := none }) (v := ?vtsame4) rfl (by kernel_rfl) (by kernel_rfl) (by kernel_rfl) (fun _ _ _ h => h) (Or.inl ⟨by rfl, ?ytsame4⟩) hk ?rtsame4
          case ytsame4 => (intro w hSw; have hcw := hSw.1; clear hSw; go_simp; first | done | with_reducible rfl)
          simp only [Act.put, List.setIfInBounds_toArray, List.set_cons_zero, List.set_cons_succ]
          refine wpAnyH_take (i := 4) (oi := { dst := some 21, op := Op.move (Operand.tmp 1), type := 28, pos := "ref.go:48", after := #[], guard := none }) (v := ?vtsame5) rfl (by kernel_rfl) (by kernel_rfl) (by kernel_rfl) (fun _ _ _ h => h) (Or.inl ⟨by rfl, ?ytsame5⟩) hk ?rtsame5
          case ytsame5 => (intro w hSw; (try dsimp only at hSw); go_simp; first | done | with_reducible rfl)
          simp only [Act.put, List.setIfInBounds_toArray, List.set_cons_zero, List.set_cons_succ]
          refine wpAnyH_take (i := 5) (oi := { dst := some 22, op := Op.move (Operand.tmp 5), type := 3, pos := "ref.go:48", after := #[], guard := none }) (v := ?vtsame6) rfl (by kernel_rfl) (by kernel_rfl) (by kernel_rfl) (fun _ _ _ h => h) (Or.inl ⟨by rfl, ?ytsame6⟩) hk ?rtsame6
          case ytsame6 => (intro w hSw; (try dsimp only at hSw); go_simp; first | done | with_reducible rfl)
          simp only [Act.put, List.setIfInBounds_toArray, List.set_cons_zero, List.set_cons_succ]
          refine wpAnyH_take (i := 6) (oi := { dst := some 23, op := Op.indexAddr 28 (Operand.tmp 21) (Operand.tmp 22), type := 0, pos := "ref.go:48", after := #[{ on := 4, ground := Ground.data }, { on := 5, ground := Ground.data }], guard := none }) (v := ?vtsame7) rfl (by kernel_rfl) (by kernel_rfl) (by kernel_rfl) (fun _ _ _ h => h) (Or.inl ⟨by rfl, ?ytsame7⟩) hk ?rtsame7
          case ytsame7 => (intro w hSw; (try dsimp only at hSw); go_simp; first | done | with_reducible rfl)
          simp only [Act.put, List.setIfInBounds_toArray, List.set_cons_zero, List.set_cons_succ]
          refine wpAnyH_take (i := 7) (oi := { dst := some 24, op := Op.load 22 (Operand.tmp 23), type := 22, pos := "ref.go:48", after := #[{ on := 6, ground := Ground.data }], guard := none }) (v := ?vtsame8) rfl (by kernel_rfl) (by kernel_rfl) (by kernel_rfl) (fun _ _ _ h => h) (Or.inl ⟨by rfl, ?ytsame8⟩) hk ?rtsame8
          case ytsame8 => (intro w hSw; have hcw := hSw.2.1; clear hSw; go_simp; first | done | with_reducible rfl)
          simp only [Act.put, List.setIfInBounds_toArray, List.set_cons_zero, List.set_cons_succ]
          refine wpAnyH_ready (rs := [8]) (by decide +kernel) (by simp) ?_
          refine AllReadyH.cons (o := { dst := some 25, op := Op.call { callee := Callee.value (Operand.func 21), args := #[Operand.tmp 20, Operand.tmp 24], argTypes := #[22, 22] }, type := 4, pos := "ref.go:48", after := #[{ on := 3, ground := Ground.data }, { on := 7, ground := Ground.data }], guard := none }) rfl (fun K hK => ?_) AllReadyH.nil
          go_simp
          refine (same_yes ai aj li lj ci cj t _ hk.2.2.1 hk.2.2.2).mono ?_
          rintro e1 w8 ⟨rfl, q8, hq8⟩
          replace hk : w8.cell? ⟨b1, o1 + k, none⟩ = some (.slice ai li ci) ∧ w8.cell? ⟨b2, o2 + k, none⟩ = some (.slice aj lj cj) ∧ Bts w8 ai li ci t ∧ Bts w8 aj lj cj t := by rw [hq8]; exact ⟨hk.1, hk.2.1, hk.2.2.1.drewN q8, hk.2.2.2.drewN q8⟩
          replace HQ : Hid (w8 = w.drewN (q + 1 + q8)) := by show _ = _; rw [hq8, HQ.out]; simp
          clear hq8
          refine hK.out _ _ hk (fun _ => ?_)
          clear hK K
          try simp only [Act.put, List.setIfInBounds_toArray, List.set_cons_zero, List.set_cons_succ]
          refine wpAnyH_take (i := 9) (oi := { dst := some 26, op := Op.unOp UnOp.not 4 (Operand.tmp 25), type := 4, pos := "ref.go:48", after := #[{ on := 8, ground := Ground.data }], guard := none }) (v := ?vtsame9) rfl (by kernel_rfl) (by kernel_rfl) (by kernel_rfl) (fun _ _ _ h => h) (Or.inl ⟨by rfl, ?ytsame9⟩) hk ?rtsame9
          case ytsame9 => (intro w hSw; (try dsimp only at hSw); go_simp; first | done | with_reducible rfl)
          simp only [Act.put, List.setIfInBounds_toArray, List.set_cons_zero, List.set_cons_succ]
          refine wpAnyH_done (by decide +kernel) ?_ _
          clear hk
          go_wp2
          go_roundw
          case rel => exact ⟨k + 1, _, by omega, by go_num, HQ.out, HE2⟩
          case measure => simp [intOf]; omega
        · have HN : Bx (decide (S = T) = false) := ⟨decide_eq_false (fun e => heq (by rw [e]))⟩
          have HD : Bx (decide (S.getD k [] = T.getD k []) = false) := ⟨decide_eq_false heq⟩
          generalize S.getD k [] = t at t1 HD
          generalize T.getD k [] = u at t2 HD
          have hk : wr.drew.cell? ⟨b1, o1 + k, none⟩ = some (.slice ai li ci) ∧ wr.drew.cell? ⟨b2, o2 + k, none⟩ = some (.slice aj lj cj) ∧ Bts wr.drew ai li ci t ∧ Bts wr.drew aj lj cj u := ⟨r1, r2, t1.drewN 1, t2.drewN 1⟩
          clear r1 r2 t1 t2 heq
          go_wp2_with fail
          refine wp_region_held_drew (S := fun W => W.cell? ⟨b1, o1 + k, none⟩ = some (.slice ai li ci) ∧ W.cell? ⟨b2, o2 + k, none⟩ = some (.slice aj lj cj) ∧ Bts W ai li ci t ∧ Bts W aj lj cj u) (by kernel_rfl) hk (fun _ => ?_)
          generalize wr.drew = wd at hk HQ ⊢
          refine wpAnyH_take (i := 0) (oi := { dst := some 17, op := Op.move (Operand.tmp 0), type := 28, pos := "ref.go:48", after := #[], guard := none }) (v := ?vtsamen1) rfl (by kernel_rfl) (by kernel_rfl) (by kernel_rfl) (fun _ _ _ h => h) (Or.inl ⟨by rfl, ?ytsamen1⟩) hk ?rtsamen1
          case ytsamen1 => (intro w hSw; (try dsimp only at hSw); go_simp; first | done | with_reducible rfl)
          simp only [Act.put, List.setIfInBounds_toArray, List.set_cons_zero, List.set_cons_succ]
          refine wpAnyH_take (i := 1) (oi := { dst := some 18, op := Op.move (Operand.tmp 5), type := 3, pos := "ref.go:48", after := #[], guard := none }) (v := ?vtsamen2) rfl (by kernel_rfl) (by kernel_rfl) (by kernel_rfl) (fun _ _ _ h => h) (Or.inl ⟨by rfl, ?ytsamen2⟩) hk ?rtsamen2
          case ytsamen2 => (intro w hSw; (try dsimp only at hSw); go_simp; first | done | with_reducible rfl)
          simp only [Act.put, List.setIfInBounds_toArray, List.set_cons_zero, List.set_cons_succ]
          refine wpAnyH_take (i := 2) (oi := { dst := some 19, op := Op.indexAddr 28 (Operand.tmp 17) (Operand.tmp 18), type := 0, pos := "ref.go:48", after := #[{ on := 0, ground := Ground.data }, { on := 1, ground := Ground.data }], guard := none }) (v := ?vtsamen3) rfl (by kernel_rfl) (by kernel_rfl) (by kernel_rfl) (fun _ _ _ h => h) (Or.inl ⟨by rfl, ?ytsamen3⟩) hk ?rtsamen3
          case ytsamen3 => (intro w hSw; (try dsimp only at hSw); go_simp; first | done | with_reducible rfl)
          simp only [Act.put, List.setIfInBounds_toArray, List.set_cons_zero, List.set_cons_succ]
          refine wpAnyH_take (i := 3) (oi := { dst := some 20, op := Op.load 22 (Operand.tmp 19), type := 22, pos := "ref.go:48", after := #[{ on := 2, ground := Ground.data }], guard := none }) (v := ?vtsamen4) rfl (by kernel_rfl) (by kernel_rfl) (by kernel_rfl) (fun _ _ _ h => h) (Or.inl ⟨by rfl, ?ytsamen4⟩) hk ?rtsamen4
          case ytsamen4 => (intro w hSw; have hcw := hSw.1; clear hSw; go_simp; first | done | with_reducible rfl)
          simp only [Act.put, List.setIfInBounds_toArray, List.set_cons_zero, List.set_cons_succ]
          refine wpAnyH_take (i := 4) (oi := { dst := some 21, op := Op.move (Operand.tmp 1), type := 28, pos := "ref.go:48", after := #[], guard := none }) (v := ?vtsamen5) rfl (by kernel_rfl) (by kernel_rfl) (by kernel_rfl) (fun _ _ _ h => h) (Or.inl ⟨by rfl, ?ytsamen5⟩) hk ?rtsamen5
          case ytsamen5 => (intro w hSw; (try dsimp only at hSw); go_simp; first | done | with_reducible rfl)
          simp only [Act.put, List.setIfInBounds_toArray, List.set_cons_zero, List.set_cons_succ]
          refine wpAnyH_take (i := 5) (oi := { dst := some 22, op := Op.move (Operand.tmp 5), type := 3, pos := "ref.go:48", after := #[], guard := none }) (v := ?vtsamen6) rfl (by kernel_rfl) (by kernel_rfl) (by kernel_rfl) (fun _ _ _ h => h) (Or.inl ⟨by rfl, ?ytsamen6⟩) hk ?rtsamen6
          case ytsamen6 => (intro w hSw; (try dsimp only at hSw); go_simp; first | done | with_reducible rfl)
          simp only [Act.put, List.setIfInBounds_toArray, List.set_cons_zero, List.set_cons_succ]
          refine wpAnyH_take (i := 6) (oi := { dst := some 23, op := Op.indexAddr 28 (Operand.tmp 21) (Operand.tmp 22), type := 0, pos := "ref.go:48", after := #[{ on := 4, ground := Ground.data }, { on := 5, ground := Ground.data }], guard := none }) (v := ?vtsamen7) rfl (by kernel_rfl) (by kernel_rfl) (by kernel_rfl) (fun _ _ _ h => h) (Or.inl ⟨by rfl, ?ytsamen7⟩) hk ?rtsamen7
          case ytsamen7 => (intro w hSw; (try dsimp only at hSw); go_simp; first | done | with_reducible rfl)
          simp only [Act.put, List.setIfInBounds_toArray, List.set_cons_zero, List.set_cons_succ]
          refine wpAnyH_take (i := 7) (oi := { dst := some 24, op := Op.load 22 (Operand.tmp 23), type := 22, pos := "ref.go:48", after := #[{ on := 6, ground := Ground.data }], guard := none }) (v := ?vtsamen8) rfl (by kernel_rfl) (by kernel_rfl) (by kernel_rfl) (fun _ _ _ h => h) (Or.inl ⟨by rfl, ?ytsamen8⟩) hk ?rtsamen8
          case ytsamen8 => (intro w hSw; have hcw := hSw.2.1; clear hSw; go_simp; first | done | with_reducible rfl)
          simp only [Act.put, List.setIfInBounds_toArray, List.set_cons_zero, List.set_cons_succ]
          refine wpAnyH_ready (rs := [8]) (by decide +kernel) (by simp) ?_
          refine AllReadyH.cons (o := { dst := some 25, op := Op.call { callee := Callee.value (Operand.func 21), args := #[Operand.tmp 20, Operand.tmp 24], argTypes := #[22, 22] }, type := 4, pos := "ref.go:48", after := #[{ on := 3, ground := Ground.data }, { on := 7, ground := Ground.data }], guard := none }) rfl (fun K hK => ?_) AllReadyH.nil
          go_simp
          refine (same_any ai aj li lj ci cj t u _ hk.2.2.1 hk.2.2.2).mono ?_
          rintro e1 w8 ⟨rfl, q8, hq8⟩
          rw [HD.out]
          replace hk : w8.cell? ⟨b1, o1 + k, none⟩ = some (.slice ai li ci) ∧ w8.cell? ⟨b2, o2 + k, none⟩ = some (.slice aj lj cj) ∧ Bts w8 ai li ci t ∧ Bts w8 aj lj cj u := by rw [hq8]; exact ⟨hk.1, hk.2.1, hk.2.2.1.drewN q8, hk.2.2.2.drewN q8⟩
          replace HQ : Hid (w8 = w.drewN (q + 1 + q8)) := by show _ = _; rw [hq8, HQ.out]; simp
          clear hq8
          refine hK.out _ _ hk (fun _ => ?_)
          clear hK K
          try simp only [Act.put, List.setIfInBounds_toArray, List.set_cons_zero, List.set_cons_succ]
          refine wpAnyH_take (i := 9) (oi := { dst := some 26, op := Op.unOp UnOp.not 4 (Operand.tmp 25), type := 4, pos := "ref.go:48", after := #[{ on := 8, ground := Ground.data }], guard := none }) (v := ?vtsamen9) rfl (by kernel_rfl) (by kernel_rfl) (by kernel_rfl) (fun _ _ _ h => h) (Or.inl ⟨by rfl, ?ytsamen9⟩) hk ?rtsamen9
          case ytsamen9 => (intro w hSw; (try dsimp only at hSw); go_simp; first | done | with_reducible rfl)
          simp only [Act.put, List.setIfInBounds_toArray, List.set_cons_zero, List.set_cons_succ]
          refine wpAnyH_done (by decide +kernel) ?_ _
          clear hk
          go_wp2
          go_ret
          exact ⟨by rw [HN.out]; rfl, _, HQ.out⟩
      · have g1 : ¬ (k : Int) < (n : Int) := by omega
        obtain rfl : k = n := by omega
        have HY : Bx (decide (S = T) = true) := ⟨decide_eq_true (by
          have h1 := HE.out
          rwa [List.take_of_length_le (by rw [HSL.out]; exact Nat.le_refl _), List.take_of_length_le (by rw [HTL.out]; exact Nat.le_refl _)] at h1)⟩
        clear hwr
        go_wp2
        go_ret
        exact ⟨by rw [HY.out]; rfl, q, HW.out⟩
  · have HN : Bx (decide (S = T) = false) := ⟨decide_eq_false (fun e => hnm (by rw [← HSL.out, ← HTL.out, e]))⟩
    have hq : ((n : Int) != (m : Int)) = true := by simp; omega
    clear ha hb hnm
    go_enter Tryd.func16, Tryd.ntmps16
    go_wp2
    go_ret
    exact ⟨by rw [HN.out]; rfl, 0, rfl⟩
end Go.Proofs.YtbednfacipphhaaDoor
