/- The document's own calls over lists of pairs. The document's own Put, Done, Bytes over lists of pairs. The document's own Done, Bytes, Get over lists of pairs. -/
import Derived.Test.YtjnjokbdoendkabSGet
import Derived.Test.YtjnjokbdoendkabSFew
import Derived.BigQuiet
namespace Go.Proofs.Ytjnjokbdoendkab
open Go.RowKit
set_option linter.unusedVariables false

set_option maxRecDepth 100000 in
theorem take_eq_step {A B : List Pr} {k : Nat} (ha : k < A.length) (hb : k < B.length) (h : A.take k = B.take k) (e : A[k] = B[k]) : A.take (k + 1) = B.take (k + 1) := by
  rw [List.take_succ_eq_append_getElem ha, List.take_succ_eq_append_getElem hb, h, e]
set_option maxRecDepth 100000 in
set_option maxHeartbeats 4000000 in
set_option maxRecDepth 100000 in
theorem psame_any (B1 B2 : Nat → Prop) (a1 a2 : Option Addr) (n1 n2 c1 c2 : Nat) (A B : List Pr) (w : World) (h1 : PT B1 w a1 n1 c1 A) (h2 : PT B2 w a2 n2 c2 B) :
    Calls Try.prog 15 #[.slice a1 n1 c1, .slice a2 n2 c2] w fun e w' => e = .returned (.bool (decide (A = B))) ∧ Below w.heap.size w w' := by
  have H1 := Bx.mk h1
  have H2 := Bx.mk h2
  have HLA : Bx (A.length = n1) := ⟨h1.len_eq⟩
  have HLB : Bx (B.length = n2) := ⟨h2.len_eq⟩
  have hm1 := Nat.le_trans h1.le_cap h1.cap_le
  have hm2 := Nat.le_trans h2.le_cap h2.cap_le
  unfold maxLen at hm1 hm2
  clear h1 h2
  by_cases hn : n1 = n2
  · subst hn
    go_enter Try.func15, Try.ntmps15
    go_wp2_with fail
    go_loopw [5] (fun i wr => ∃ k : Nat, k ≤ n1 ∧ i = .int .i64 k ∧ Bx (A.take k = B.take k) ∧ Below w.heap.size w wr) (fun i _ => n1 - (intOf i).toNat)
    case atStart => exact ⟨0, Nat.zero_le _, rfl, ⟨by rw [List.take_zero, List.take_zero]⟩, Below.refl _ _⟩
    case round =>
      obtain ⟨k, hk, rfl, HE, hbw⟩ := hrel
      by_cases hlt : k < n1
      · have hkI : (k : Int) < (n1 : Int) := by omega
        have hkA : k < A.length := by rw [HLA.out]; exact hlt
        have hkB : k < B.length := by rw [HLB.out]; exact hlt
        obtain ⟨b, off, ai, ni, ci, rfl, hbl, _, x0, x1, hbt, _⟩ := (H1.out.below hbw).pr k hlt
        obtain ⟨b', off', ai', ni', ci', rfl, hbl', _, y0, y1, hbt', _⟩ := (H2.out.below hbw).pr k hlt
        have HAB : Bx (A = B → A[k] = B[k]) := ⟨fun e => by subst e; rfl⟩
        have HST : Bx (A[k] = B[k] → A.take (k + 1) = B.take (k + 1)) := ⟨take_eq_step hkA hkB HE.out⟩
        generalize A[k] = ca at x0 hbt HAB HST
        generalize B[k] = cb at y0 hbt' HAB HST
        obtain ⟨kk, vv⟩ := ca
        obtain ⟨kk', vv'⟩ := cb
        simp only at x0 hbt y0 hbt'
        have HS : Bx (∀ W, (W.cell? ⟨b, off + k * 2, none⟩ = some (.string kk) ∧ W.cell? ⟨b, off + k * 2 + 1, none⟩ = some (.slice ai ni ci) ∧ W.cell? ⟨b', off' + k * 2, none⟩ = some (.string kk') ∧ W.cell? ⟨b', off' + k * 2 + 1, none⟩ = some (.slice ai' ni' ci') ∧ Below wr.heap.size wr W) → Calls Try.prog 36 #[.slice ai ni ci, .slice ai' ni' ci'] W fun e w' => e = .returned (.bool (decide (vv = vv'))) ∧ (w'.cell? ⟨b, off + k * 2, none⟩ = some (.string kk) ∧ w'.cell? ⟨b, off + k * 2 + 1, none⟩ = some (.slice ai ni ci) ∧ w'.cell? ⟨b', off' + k * 2, none⟩ = some (.string kk') ∧ w'.cell? ⟨b', off' + k * 2 + 1, none⟩ = some (.slice ai' ni' ci') ∧ Below wr.heap.size wr w')) := ⟨fun W hW => (same_any ai ai' ni ni' ci ci' vv vv' W (hbt.below hW.2.2.2.2) (hbt'.below hW.2.2.2.2)).mono (by rintro e w' ⟨rfl, q, rfl⟩; exact ⟨rfl, hW.1, hW.2.1, hW.2.2.1, hW.2.2.2.1, below_drewN hW.2.2.2.2 q⟩)⟩
        by_cases hkk : kk = kk'
        · have gk : (kk.toList == kk'.toList) = true := str_eq hkk
          by_cases hvv : vv = vv'
          · have HST2 : Bx (A.take (k + 1) = B.take (k + 1)) := ⟨HST.out (by rw [hkk, hvv])⟩
            rw [decide_eq_true hvv] at HS
            clear HST HAB HE hvv hkk
            have hS0 : wr.drew.cell? ⟨b, off + k * 2, none⟩ = some (.string kk) ∧ wr.drew.cell? ⟨b, off + k * 2 + 1, none⟩ = some (.slice ai ni ci) ∧ wr.drew.cell? ⟨b', off' + k * 2, none⟩ = some (.string kk') ∧ wr.drew.cell? ⟨b', off' + k * 2 + 1, none⟩ = some (.slice ai' ni' ci') ∧ Below wr.heap.size wr wr.drew := ⟨x0, x1, y0, y1, (Below.refl _ _).drew⟩
            clear hbt hbt' x0 x1 y0 y1 hbl hbl'
            go_wp2_with fail
            go_region_held3 (fun W => W.cell? ⟨b, off + k * 2, none⟩ = some (.string kk) ∧ W.cell? ⟨b, off + k * 2 + 1, none⟩ = some (.slice ai ni ci) ∧ W.cell? ⟨b', off' + k * 2, none⟩ = some (.string kk') ∧ W.cell? ⟨b', off' + k * 2 + 1, none⟩ = some (.slice ai' ni' ci') ∧ Below wr.heap.size wr W) (first | (exact hS0) | (exact hb6) | (assumption)) (first
              | (go_at_call 36; refine (HS.out _ (by assumption)).mono ?_; rintro e6 w6 ⟨rfl, hb6⟩))
            rename_i hHeld
            have hbw6 := bstep hbw hHeld.2.2.2.2
            clear hHeld hS0 HS hb6
            go_wp2_with fail
            go_roundw
            case rel => exact ⟨k + 1, by omega, by go_num, HST2, hbw6⟩
            case measure => simp [intOf]; omega
          · have HNE : Bx (decide (A = B) = false) := ⟨decide_eq_false fun e => hvv (by have := HAB.out e; simpa using (Prod.mk.inj this).2)⟩
            rw [decide_eq_false hvv] at HS
            clear HST HAB HE hvv hkk
            have hS0 : wr.drew.cell? ⟨b, off + k * 2, none⟩ = some (.string kk) ∧ wr.drew.cell? ⟨b, off + k * 2 + 1, none⟩ = some (.slice ai ni ci) ∧ wr.drew.cell? ⟨b', off' + k * 2, none⟩ = some (.string kk') ∧ wr.drew.cell? ⟨b', off' + k * 2 + 1, none⟩ = some (.slice ai' ni' ci') ∧ Below wr.heap.size wr wr.drew := ⟨x0, x1, y0, y1, (Below.refl _ _).drew⟩
            clear hbt hbt' x0 x1 y0 y1 hbl hbl'
            go_wp2_with fail
            go_region_held3 (fun W => W.cell? ⟨b, off + k * 2, none⟩ = some (.string kk) ∧ W.cell? ⟨b, off + k * 2 + 1, none⟩ = some (.slice ai ni ci) ∧ W.cell? ⟨b', off' + k * 2, none⟩ = some (.string kk') ∧ W.cell? ⟨b', off' + k * 2 + 1, none⟩ = some (.slice ai' ni' ci') ∧ Below wr.heap.size wr W) (first | (exact hS0) | (exact hb6) | (assumption)) (first
              | (go_at_call 36; refine (HS.out _ (by assumption)).mono ?_; rintro e6 w6 ⟨rfl, hb6⟩))
            rename_i hHeld
            have hbw6 := bstep hbw hHeld.2.2.2.2
            clear hHeld hS0 HS hb6
            go_wp2_with fail
            go_ret
            exact ⟨by rw [HNE.out]; rfl, hbw6⟩
        · have gk : (kk.toList == kk'.toList) = false := str_ne hkk
          have HNE : Bx (decide (A = B) = false) := ⟨decide_eq_false fun e => hkk (by have := HAB.out e; simpa using (Prod.mk.inj this).1)⟩
          clear HST HAB HE hkk HS hbt hbt' hbl hbl'
          go_wp2_with fail
          go_quiet (fail)
          go_wp2_with fail
          go_ret
          exact ⟨by rw [HNE.out]; rfl, below_drewN hbw nq⟩
      · have hkI : ¬ (k : Int) < (n1 : Int) := by omega
        have HYE : Bx (decide (A = B) = true) := ⟨decide_eq_true (by
          have h3 := HE.out
          rw [List.take_of_length_le (by rw [HLA.out]; omega), List.take_of_length_le (by rw [HLB.out]; omega)] at h3
          exact h3)⟩
        clear HE
        go_wp2_with fail
        go_ret
        exact ⟨by rw [HYE.out]; rfl, hbw⟩
  · have hnI : ((n1 : Int) == (n2 : Int)) = false := beq_eq_false_iff_ne.2 (by omega)
    have HNE : Bx (decide (A = B) = false) := ⟨decide_eq_false fun e => hn (by rw [← HLA.out, ← HLB.out, e])⟩
    clear hn
    go_enter Try.func15, Try.ntmps15
    go_wp2_with fail
    go_ret
    exact ⟨by rw [HNE.out]; rfl, Below.refl _ _⟩
end Go.Proofs.Ytjnjokbdoendkab
namespace Go.Proofs.Ytjnjokbdoendkab
open Go.RowKit
set_option linter.unusedVariables false

/-- a list that grows; its values lie anywhere but in it -/
structure QL (w : World) (base : Nat) (own : Nat → Prop) (v : Value) (L : List Pr) : Prop where
  row : ∃ Z : List (It Pr), Z.map (·.x) = L ∧ w.ownsRow base 43 2 v L.length (Z.flatMap prE) ∧ ∀ z ∈ Z, Bts w z.a z.n z.c z.x.2 ∧ (0 < z.n → ∀ p, z.a = some p → own p.block ∧ v.ownBlock ≠ some p.block)
structure QA (w : World) (own : Nat → Prop) (v : Value) (L : List Pr) (Z : List (It Pr)) : Prop where
  z : Z.map (·.x) = L
  b : ∀ z ∈ Z, Bts w z.a z.n z.c z.x.2 ∧ (0 < z.n → ∀ p, z.a = some p → own p.block ∧ v.ownBlock ≠ some p.block)
section
variable {w w' : World} {base : Nat} {own : Nat → Prop} {v : Value} {L : List Pr}
set_option maxRecDepth 100000 in
theorem QL.nil (w : World) (base : Nat) (own : Nat → Prop) : QL w base own (.slice none 0 0) [] := ⟨⟨[], rfl, World.ownsRow_nil _ _ _ _, fun z hz => by simp at hz⟩⟩
set_option maxRecDepth 100000 in
theorem QL.below (h : QL w base own v L) (hb : Below w.heap.size w w') : QL w' base own v L := by
  obtain ⟨Z, h0, h1, h2⟩ := h.row
  refine ⟨⟨Z, h0, ⟨h1.1, ?_⟩, fun z hz => ⟨(h2 z hz).1.below hb, (h2 z hz).2⟩⟩⟩
  rcases h1.2 with h3 | ⟨g', cap', cur, hv, hg, hh, r⟩
  · exact .inl h3
  · exact .inr ⟨g', cap', cur, hv, hg, (hb.block g' (Array.getElem?_eq_some_iff.1 hh).1).trans hh, r⟩
set_option maxRecDepth 100000 in
theorem QL.drewN (h : QL w base own v L) (n : Nat) : QL (w.drewN n) base own v L := h.below (below_drewN (Below.refl _ _) n)
set_option maxRecDepth 100000 in
theorem QL.lt (h : QL w base own v L) {j : Nat} (hj : v.ownBlock = some j) : j < w.heap.size := by
  obtain ⟨Z, h0, h1, h2⟩ := h.row
  exact (h1.lt j hj).2
set_option maxRecDepth 100000 in
theorem QL.ge (h : QL w base own v L) {j : Nat} (hj : v.ownBlock = some j) : base ≤ j := by
  obtain ⟨Z, h0, h1, h2⟩ := h.row
  exact (h1.lt j hj).1
set_option maxRecDepth 100000 in
theorem QL.open (h : QL w base own v L) : ∃ Z : List (It Pr), w.ownsRow base 43 2 v L.length (Z.flatMap prE) ∧ Bx (QA w own v L Z) := by
  obtain ⟨Z, h0, h1, h2⟩ := h.row
  exact ⟨Z, h1, ⟨h0, h2⟩⟩
set_option maxRecDepth 100000 in
theorem QA.done {Z : List (It Pr)} {z : It Pr} {g cap m : Nat} {news : List Value} (h : QA w own v L Z) (hm : m = L.length) (hz : news = prE z) (hbt : Bts w z.a z.n z.c z.x.2) (hne : 0 < z.n → ∀ p, z.a = some p → own p.block ∧ v.ownBlock ≠ some p.block)
    (ho : w'.ownsRow base 43 2 (.slice (some ⟨g, 0, none⟩) (m + 1) cap) (m + 1) (Z.flatMap prE ++ news)) (hg : w.grownBy w' v.ownBlock) (hl : v.ownBlock = some g ∨ w.heap.size ≤ g) : QL w' base own (.slice (some ⟨g, 0, none⟩) (m + 1) cap) (L ++ [z.x]) := by
  subst hm hz
  have hcar : ∀ {ai : Option Addr} {li ci : Nat} {y : List Int}, Bts w ai li ci y → (0 < li → ∀ p, ai = some p → own p.block ∧ v.ownBlock ≠ some p.block) → Bts w' ai li ci y ∧ (0 < li → ∀ p, ai = some p → own p.block ∧ (Value.slice (some ⟨g, 0, none⟩) (L.length + 1) cap).ownBlock ≠ some p.block) := by
    intro ai li ci y hy hn
    have hbl : ∀ (hp : 0 < li) p (e : ai = some p), w'.heap[p.block]? = w.heap[p.block]? := fun hp p e => hg.block _ (hy.lt hp e) (fun hh => (hn hp p e).2 hh.symm)
    refine ⟨hy.keep (fun hp p e => hbl hp p e) hg.size, fun hp p e => ⟨(hn hp p e).1, ?_⟩⟩
    show some g ≠ some p.block
    rcases hl with h1 | h1
    · rw [← h1]; exact (hn hp p e).2
    · intro e2
      have e4 : g = p.block := Option.some.inj e2
      have := hy.lt hp e
      omega
  refine ⟨⟨Z ++ [z], by rw [List.map_append, h.z]; rfl, by rw [List.length_append, List.flatMap_append]; simpa using ho, fun y hy => ?_⟩⟩
  rcases List.mem_append.1 hy with hy | hy
  · obtain ⟨e2, e3⟩ := h.b y hy
    exact hcar e2 e3
  · obtain rfl : y = z := by simpa using hy
    exact hcar hbt hne
set_option maxRecDepth 100000 in
theorem QL.form (h : QL w base own v L) : ∃ a c, v = .slice a L.length c ∧ c ≤ maxLen := by
  obtain ⟨Z, _, ho, _⟩ := h.row
  rcases ho.2 with ⟨rfl, h0⟩ | ⟨g, cap, cur, rfl, hb, hg, hnc, hcm, hcs, ht⟩
  · exact ⟨none, 0, by rw [h0], Nat.zero_le _⟩
  · exact ⟨some ⟨g, 0, none⟩, cap, rfl, hcm⟩
set_option maxRecDepth 100000 in
theorem QL.pt (h : QL w base own v L) (hb : ∀ k, base ≤ k → own k) : ∃ a c, v = .slice a L.length c ∧ PT own w a L.length c L := by
  obtain ⟨Z, hZ, ho, hx⟩ := h.row
  have hZl : Z.length = L.length := by rw [← hZ, List.length_map]
  rcases ho.2 with ⟨rfl, h0⟩ | ⟨g, cap, cur, rfl, hbg, hg, hnc, hcm, hcs, ht⟩
  · exact ⟨none, 0, by rw [h0], rfl, by omega, Nat.zero_le _, fun hp => by omega⟩
  · refine ⟨some ⟨g, 0, none⟩, cap, rfl, rfl, hnc, hcm, fun hp => ⟨g, 0, rfl, (Array.getElem?_eq_some_iff.1 hg).1, hb g hbg, fun i hi => ?_⟩⟩
    have hi2 : i < Z.length := by omega
    obtain ⟨e2, e3⟩ := hx Z[i] (List.getElem_mem hi2)
    refine ⟨Z[i], by rw [← hZ, List.getElem?_map, List.getElem?_eq_getElem hi2]; rfl, fun j hj => ?_, e2, fun hp p e => (e3 hp p e).1⟩
    rw [Nat.zero_add, ho.cellAt (i * 2 + j) (by omega), flat_get prE_len Z i j hi2 hj]
end
set_option maxRecDepth 100000 in
theorem putG_len (c : Chg) (d : Bool) (L : List Pr) : (putG c d L).length ≤ L.length + 1 := by
  have h := (putG_perm c d L).length_eq
  have h2 : (L.filter (fun p => decide (p.1 ≠ c.key))).length ≤ L.length := List.length_filter_le _ _
  rw [h, List.length_append]
  have h3 : (if d = true then ([] : List Pr) else [(c.key, c.val)]).length ≤ 1 := by split <;> simp
  omega
set_option maxRecDepth 100000 in
theorem ptK_len (L : List Pr) (c : Chg) : (ptK L c).length ≤ L.length + 1 := putG_len c _ L
set_option maxRecDepth 100000 in
/-- what stands at the front of the rest -/
theorem putG_at {c : Chg} {d : Bool} {L : List Pr} {k : Nat} (h : k < L.length) : putG c d (L.drop k) = if d = false ∧ klt c.key (L[k]).1 then (c.key, c.val) :: (kp c.key L[k] ++ putG c true (L.drop (k + 1))) else kp c.key L[k] ++ putG c d (L.drop (k + 1)) := by
  rw [List.drop_eq_getElem_cons h]; rfl
set_option maxRecDepth 100000 in
theorem kp_ne {k : ByteArray} {p : Pr} (h : p.1 ≠ k) : kp k p = [p] := by unfold kp; rw [if_neg h]
set_option maxRecDepth 100000 in
theorem kp_eq {k : ByteArray} {p : Pr} (h : p.1 = k) : kp k p = [] := by unfold kp; rw [if_pos h]
end Go.Proofs.Ytjnjokbdoendkab
namespace Go.Proofs.Ytjnjokbdoendkab
open Go.RowKit
set_option linter.unusedVariables false

set_option maxRecDepth 100000 in
theorem doneL_len (L : List Pr) (l : List Chg) : (doneL L l).length ≤ L.length + l.length := by
  unfold doneL
  induction l generalizing L with
  | nil => exact Nat.le_refl _
  | cons c t ih =>
    have h1 := ih (ptK L c)
    have h2 := ptK_len L c
    rw [List.foldl_cons, List.length_cons]
    omega
set_option maxRecDepth 100000 in
theorem doneL_step (L : List Pr) (l : List Chg) (k : Nat) (h : k < l.length) : doneL L (l.take (k + 1)) = ptK (doneL L (l.take k)) l[k] := by
  unfold doneL
  rw [List.take_succ_eq_append_getElem h, List.foldl_append]; rfl
set_option maxRecDepth 100000 in
theorem byM_take (L : List Pr) (k : Nat) (h : k < L.length) : byM (L.take (k + 1)) = byM (L.take k) + (L[k].1.size + L[k].2.length) := by
  rw [List.take_succ_eq_append_getElem h, byM_append]
  simp [byM]
set_option maxRecDepth 100000 in
theorem byM_take_le (L : List Pr) (k : Nat) : byM (L.take k) ≤ byM L := by
  have h : byM L = byM (L.take k) + byM (L.drop k) := by rw [← byM_append, List.take_append_drop]
  omega
set_option maxRecDepth 100000 in
theorem gtM_no_take {L : List Pr} {key : ByteArray} {k : Nat} (h : k < L.length) (hn : gtM (L.take k) key = none) (he : L[k].1 = key) : gtM L key = some L[k].2 := by
  have h1 : L = L.take k ++ L[k] :: L.drop (k + 1) := by
    conv => lhs; rw [← List.take_append_drop k L, List.drop_eq_getElem_cons h]
  have h3 : ∀ (A C : List Pr) (p : Pr), gtM A key = none → p.1 = key → gtM (A ++ p :: C) key = some p.2 := by
    intro A C p h4 h5
    unfold gtM at *
    have h2 : A.find? (fun p => decide (p.1 = key)) = none := by simpa using h4
    rw [List.find?_append, h2, List.find?_cons]
    simp [h5]
  exact (congrArg (fun X => gtM X key) h1).trans (h3 _ _ _ hn he)
set_option maxRecDepth 100000 in
theorem gtM_take_step {L : List Pr} {key : ByteArray} {k : Nat} (h : k < L.length) (hn : gtM (L.take k) key = none) (he : L[k].1 ≠ key) : gtM (L.take (k + 1)) key = none := by
  rw [List.take_succ_eq_append_getElem h]
  rw [gtM_none] at *
  intro p hp
  rcases List.mem_append.1 hp with h1 | h1
  · exact hn p h1
  · obtain rfl : p = L[k] := by simpa using h1
    exact he
end Go.Proofs.Ytjnjokbdoendkab
