/- The document's own calls over lists of pairs. The document's own Put, Done, Bytes over lists of pairs. The document's own Done, Bytes, Get over lists of pairs. -/
import Derived.Test.YtjnjokbdoendkaaGreatSGet
import Derived.Test.YtjnjokbdoendkaaGreatSFew
import Derived.BigQuiet
namespace Go.Proofs.YtjnjokbdoendkaaGreat
open Go.RowKit
set_option linter.unusedVariables false

set_option maxRecDepth 100000 in
theorem take_eq_step {A B : List Pr} {k : Nat} (ha : k < A.length) (hb : k < B.length) (h : A.take k = B.take k) (e : A[k] = B[k]) : A.take (k + 1) = B.take (k + 1) := by
  rw [List.take_succ_eq_append_getElem ha, List.take_succ_eq_append_getElem hb, h, e]
set_option maxRecDepth 100000 in
set_option maxHeartbeats 4000000 in
set_option maxRecDepth 100000 in
theorem psame_any (B1 B2 : Nat → Prop) (a1 a2 : Option Addr) (n1 n2 c1 c2 : Nat) (A B : List Pr) (w : World) (h1 : PT B1 w a1 n1 c1 A) (h2 : PT B2 w a2 n2 c2 B) :
    Calls Tryz.prog 26 #[.slice a1 n1 c1, .slice a2 n2 c2] w fun e w' => e = .returned (.bool (decide (A = B))) ∧ Below w.heap.size w w' := by
  have H1 := Bx.mk h1
  have H2 := Bx.mk h2
  have HLA : Bx (A.length = n1) := ⟨h1.len_eq⟩
  have HLB : Bx (B.length = n2) := ⟨h2.len_eq⟩
  have hm1 := Nat.le_trans h1.le_cap h1.cap_le
  have hm2 := Nat.le_trans h2.le_cap h2.cap_le
  unfold maxLen at hm1 hm2
  clear h1 h2
  by_cases hn : n1 = n2
  · subst hn
    go_enter Tryz.func26, Tryz.ntmps26
    go_wp2_with fail
    go_loopw [5] (fun i wr => ∃ k : Nat, k ≤ n1 ∧ i = .int .i64 k ∧ Bx (A.take k = B.take k) ∧ Below w.heap.size w wr) (fun i _ => n1 - (intOf i).toNat)
    case atStart => exact ⟨0, Nat.zero_le _, rfl, ⟨by rw [List.take_zero, List.take_zero]⟩, Below.refl _ _⟩
    case round =>
      obtain ⟨k, hk, rfl, HE, hbw⟩ := hrel
      by_cases hlt : k < n1
      · have hkI : (k : Int) < (n1 : Int) := by omega
        have hkA : k < A.length := by rw [HLA.out]; exact hlt
        have hkB : k < B.length := by rw [HLB.out]; exact hlt
        obtain ⟨b, off, ai, ni, ci, rfl, hbl, _, x0, x1, hbt, _⟩ := (H1.out.below hbw).pr k hlt
        obtain ⟨b', off', ai', ni', ci', rfl, hbl', _, y0, y1, hbt', _⟩ := (H2.out.below hbw).pr k hlt
        have HAB : Bx (A = B → A[k] = B[k]) := ⟨fun e => by subst e; rfl⟩
        have HST : Bx (A[k] = B[k] → A.take (k + 1) = B.take (k + 1)) := ⟨take_eq_step hkA hkB HE.out⟩
        generalize A[k] = ca at x0 hbt HAB HST
        generalize B[k] = cb at y0 hbt' HAB HST
        obtain ⟨kk, vv⟩ := ca
        obtain ⟨kk', vv'⟩ := cb
        simp only at x0 hbt y0 hbt'
        have HS : Bx (∀ W, (W.cell? ⟨b, off + k * 2, none⟩ = some (.string kk) ∧ W.cell? ⟨b, off + k * 2 + 1, none⟩ = some (.slice ai ni ci) ∧ W.cell? ⟨b', off' + k * 2, none⟩ = some (.string kk') ∧ W.cell? ⟨b', off' + k * 2 + 1, none⟩ = some (.slice ai' ni' ci') ∧ Below wr.heap.size wr W) → Calls Tryz.prog 33 #[.slice ai ni ci, .slice ai' ni' ci'] W fun e w' => e = .returned (.bool (decide (vv = vv'))) ∧ (w'.cell? ⟨b, off + k * 2, none⟩ = some (.string kk) ∧ w'.cell? ⟨b, off + k * 2 + 1, none⟩ = some (.slice ai ni ci) ∧ w'.cell? ⟨b', off' + k * 2, none⟩ = some (.string kk') ∧ w'.cell? ⟨b', off' + k * 2 + 1, none⟩ = some (.slice ai' ni' ci') ∧ Below wr.heap.size wr w')) := ⟨fun W hW => (same_any ai ai' ni ni' ci ci' vv vv' W (hbt.below hW.2.2.2.2) (hbt'.below hW.2.2.2.2)).mono (by rintro e w' ⟨rfl, q, rfl⟩; exact ⟨rfl, hW.1, hW.2.1, hW.2.2.1, hW.2.2.2.1, below_drewN hW.2.2.2.2 q⟩)⟩
        by_cases hkk : kk = kk'
        · have gk : (kk.toList == kk'.toList) = true := str_eq hkk
          by_cases hvv : vv = vv'
          · have HST2 : Bx (A.take (k + 1) = B.take (k + 1)) := ⟨HST.out (by rw [hkk, hvv])⟩
            rw [decide_eq_true hvv] at HS
            clear HST HAB HE hvv hkk
            have hS0 : wr.drew.cell? ⟨b, off + k * 2, none⟩ = some (.string kk) ∧ wr.drew.cell? ⟨b, off + k * 2 + 1, none⟩ = some (.slice ai ni ci) ∧ wr.drew.cell? ⟨b', off' + k * 2, none⟩ = some (.string kk') ∧ wr.drew.cell? ⟨b', off' + k * 2 + 1, none⟩ = some (.slice ai' ni' ci') ∧ Below wr.heap.size wr wr.drew := ⟨x0, x1, y0, y1, (Below.refl _ _).drew⟩
            clear hbt hbt' x0 x1 y0 y1 hbl hbl'
            go_wp2_with fail
            go_region_held3 (fun W => W.cell? ⟨b, off + k * 2, none⟩ = some (.string kk) ∧ W.cell? ⟨b, off + k * 2 + 1, none⟩ = some (.slice ai ni ci) ∧ W.cell? ⟨b', off' + k * 2, none⟩ = some (.string kk') ∧ W.cell? ⟨b', off' + k * 2 + 1, none⟩ = some (.slice ai' ni' ci') ∧ Below wr.heap.size wr W) (first | (exact hS0) | (exact hb6) | (assumption)) (first
              | (go_at_call 33; refine (HS.out _ (by assumption)).mono ?_; rintro e6 w6 ⟨rfl, hb6⟩))
            rename_i hHeld
            have hbw6 := bstep hbw hHeld.2.2.2.2
            clear hHeld hS0 HS hb6
            go_wp2_with fail
            go_roundw
            case rel => exact ⟨k + 1, by omega, by go_num, HST2, hbw6⟩
            case measure => simp [intOf]; omega
          · have HNE : Bx (decide (A = B) = false) := ⟨decide_eq_false fun e => hvv (by have := HAB.out e; simpa using (Prod.mk.inj this).2)⟩
            rw [decide_eq_false hvv] at HS
            clear HST HAB HE hvv hkk
            have hS0 : wr.drew.cell? ⟨b, off + k * 2, none⟩ = some (.string kk) ∧ wr.drew.cell? ⟨b, off + k * 2 + 1, none⟩ = some (.slice ai ni ci) ∧ wr.drew.cell? ⟨b', off' + k * 2, none⟩ = some (.string kk') ∧ wr.drew.cell? ⟨b', off' + k * 2 + 1, none⟩ = some (.slice ai' ni' ci') ∧ Below wr.heap.size wr wr.drew := ⟨x0, x1, y0, y1, (Below.refl _ _).drew⟩
            clear hbt hbt' x0 x1 y0 y1 hbl hbl'
            go_wp2_with fail
            go_region_held3 (fun W => W.cell? ⟨b, off + k * 2, none⟩ = some (.string kk) ∧ W.cell? ⟨b, off + k * 2 + 1, none⟩ = some (.slice ai ni ci) ∧ W.cell? ⟨b', off' + k * 2, none⟩ = some (.string kk') ∧ W.cell? ⟨b', off' + k * 2 + 1, none⟩ = some (.slice ai' ni' ci') ∧ Below wr.heap.size wr W) (first | (exact hS0) | (exact hb6) | (assumption)) (first
              | (go_at_call 33; refine (HS.out _ (by assumption)).mono ?_; rintro e6 w6 ⟨rfl, hb6⟩))
            rename_i hHeld
            have hbw6 := bstep hbw hHeld.2.2.2.2
            clear hHeld hS0 HS hb6
            go_wp2_with fail
            go_ret
            exact ⟨by rw [HNE.out]; rfl, hbw6⟩
        · have gk : (kk.toList == kk'.toList) = false := str_ne hkk
          have HNE : Bx (decide (A = B) = false) := ⟨decide_eq_false fun e => hkk (by have := HAB.out e; simpa using (Prod.mk.inj this).1)⟩
          clear HST HAB HE hkk HS hbt hbt' hbl hbl'
          go_wp2_with fail
          go_quiet (fail)
          go_wp2_with fail
          go_ret
          exact ⟨by rw [HNE.out]; rfl, below_drewN hbw nq⟩
      · have hkI : ¬ (k : Int) < (n1 : Int) := by omega
        have HYE : Bx (decide (A = B) = true) := ⟨decide_eq_true (by
          have h3 := HE.out
          rw [List.take_of_length_le (by rw [HLA.out]; omega), List.take_of_length_le (by rw [HLB.out]; omega)] at h3
          exact h3)⟩
        clear HE
        go_wp2_with fail
        go_ret
        exact ⟨by rw [HYE.out]; rfl, hbw⟩
  · have hnI : ((n1 : Int) == (n2 : Int)) = false := beq_eq_false_iff_ne.2 (by omega)
    have HNE : Bx (decide (A = B) = false) := ⟨decide_eq_false fun e => hn (by rw [← HLA.out, ← HLB.out, e])⟩
    clear hn
    go_enter Tryz.func26, Tryz.ntmps26
    go_wp2_with fail
    go_ret
    exact ⟨by rw [HNE.out]; rfl, Below.refl _ _⟩
end Go.Proofs.YtjnjokbdoendkaaGreat
namespace Go.Proofs.YtjnjokbdoendkaaGreat
open Go.RowKit
set_option linter.unusedVariables false

/-- a list that grows; its values lie anywhere but in it -/
structure QL (w : World) (base : Nat) (own : Nat → Prop) (v : Value) (L : List Pr) : Prop where
  row : ∃ Z : List (It Pr), Z.map (·.x) = L ∧ w.ownsRow base 114 2 v L.length (Z.flatMap prE) ∧ ∀ z ∈ Z, Bts w z.a z.n z.c z.x.2 ∧ (0 < z.n → ∀ p, z.a = some p → own p.block ∧ v.ownBlock ≠ some p.block)
structure QA (w : World) (own : Nat → Prop) (v : Value) (L : List Pr) (Z : List (It Pr)) : Prop where
  z : Z.map (·.x) = L
  b : ∀ z ∈ Z, Bts w z.a z.n z.c z.x.2 ∧ (0 < z.n → ∀ p, z.a = some p → own p.block ∧ v.ownBlock ≠ some p.block)
section
variable {w w' : World} {base : Nat} {own : Nat → Prop} {v : Value} {L : List Pr}
set_option maxRecDepth 100000 in
theorem QL.nil (w : World) (base : Nat) (own : Nat → Prop) : QL w base own (.slice none 0 0) [] := ⟨⟨[], rfl, World.ownsRow_nil _ _ _ _, fun z hz => by simp at hz⟩⟩
set_option maxRecDepth 100000 in
theorem QL.below (h : QL w base own v L) (hb : Below w.heap.size w w') : QL w' base own v L := by
  obtain ⟨Z, h0, h1, h2⟩ := h.row
  refine ⟨⟨Z, h0, ⟨h1.1, ?_⟩, fun z hz => ⟨(h2 z hz).1.below hb, (h2 z hz).2⟩⟩⟩
  rcases h1.2 with h3 | ⟨g', cap', cur, hv, hg, hh, r⟩
  · exact .inl h3
  · exact .inr ⟨g', cap', cur, hv, hg, (hb.block g' (Array.getElem?_eq_some_iff.1 hh).1).trans hh, r⟩
set_option maxRecDepth 100000 in
theorem QL.drewN (h : QL w base own v L) (n : Nat) : QL (w.drewN n) base own v L := h.below (below_drewN (Below.refl _ _) n)
set_option maxRecDepth 100000 in
theorem QL.lt (h : QL w base own v L) {j : Nat} (hj : v.ownBlock = some j) : j < w.heap.size := by
  obtain ⟨Z, h0, h1, h2⟩ := h.row
  exact (h1.lt j hj).2
set_option maxRecDepth 100000 in
theorem QL.open (h : QL w base own v L) : ∃ Z : List (It Pr), w.ownsRow base 114 2 v L.length (Z.flatMap prE) ∧ Bx (QA w own v L Z) := by
  obtain ⟨Z, h0, h1, h2⟩ := h.row
  exact ⟨Z, h1, ⟨h0, h2⟩⟩
set_option maxRecDepth 100000 in
theorem QA.done {Z : List (It Pr)} {z : It Pr} {g cap m : Nat} {news : List Value} (h : QA w own v L Z) (hm : m = L.length) (hz : news = prE z) (hbt : Bts w z.a z.n z.c z.x.2) (hne : 0 < z.n → ∀ p, z.a = some p → own p.block ∧ v.ownBlock ≠ some p.block)
    (ho : w'.ownsRow base 114 2 (.slice (some ⟨g, 0, none⟩) (m + 1) cap) (m + 1) (Z.flatMap prE ++ news)) (hg : w.grownBy w' v.ownBlock) (hl : v.ownBlock = some g ∨ w.heap.size ≤ g) : QL w' base own (.slice (some ⟨g, 0, none⟩) (m + 1) cap) (L ++ [z.x]) := by
  subst hm hz
  have hcar : ∀ {ai : Option Addr} {li ci : Nat} {y : List Int}, Bts w ai li ci y → (0 < li → ∀ p, ai = some p → own p.block ∧ v.ownBlock ≠ some p.block) → Bts w' ai li ci y ∧ (0 < li → ∀ p, ai = some p → own p.block ∧ (Value.slice (some ⟨g, 0, none⟩) (L.length + 1) cap).ownBlock ≠ some p.block) := by
    intro ai li ci y hy hn
    have hbl : ∀ (hp : 0 < li) p (e : ai = some p), w'.heap[p.block]? = w.heap[p.block]? := fun hp p e => hg.block _ (hy.lt hp e) (fun hh => (hn hp p e).2 hh.symm)
    refine ⟨hy.keep (fun hp p e => hbl hp p e) hg.size, fun hp p e => ⟨(hn hp p e).1, ?_⟩⟩
    show some g ≠ some p.block
    rcases hl with h1 | h1
    · rw [← h1]; exact (hn hp p e).2
    · intro e2
      have e4 : g = p.block := Option.some.inj e2
      have := hy.lt hp e
      omega
  refine ⟨⟨Z ++ [z], by rw [List.map_append, h.z]; rfl, by rw [List.length_append, List.flatMap_append]; simpa using ho, fun y hy => ?_⟩⟩
  rcases List.mem_append.1 hy with hy | hy
  · obtain ⟨e2, e3⟩ := h.b y hy
    exact hcar e2 e3
  · obtain rfl : y = z := by simpa using hy
    exact hcar hbt hne
set_option maxRecDepth 100000 in
theorem QL.form (h : QL w base own v L) : ∃ a c, v = .slice a L.length c ∧ c ≤ maxLen := by
  obtain ⟨Z, _, ho, _⟩ := h.row
  rcases ho.2 with ⟨rfl, h0⟩ | ⟨g, cap, cur, rfl, hb, hg, hnc, hcm, hcs, ht⟩
  · exact ⟨none, 0, by rw [h0], Nat.zero_le _⟩
  · exact ⟨some ⟨g, 0, none⟩, cap, rfl, hcm⟩
set_option maxRecDepth 100000 in
theorem QL.pt (h : QL w base own v L) (hb : ∀ k, base ≤ k → own k) : ∃ a c, v = .slice a L.length c ∧ PT own w a L.length c L := by
  obtain ⟨Z, hZ, ho, hx⟩ := h.row
  have hZl : Z.length = L.length := by rw [← hZ, List.length_map]
  rcases ho.2 with ⟨rfl, h0⟩ | ⟨g, cap, cur, rfl, hbg, hg, hnc, hcm, hcs, ht⟩
  · exact ⟨none, 0, by rw [h0], rfl, by omega, Nat.zero_le _, fun hp => by omega⟩
  · refine ⟨some ⟨g, 0, none⟩, cap, rfl, rfl, hnc, hcm, fun hp => ⟨g, 0, rfl, (Array.getElem?_eq_some_iff.1 hg).1, hb g hbg, fun i hi => ?_⟩⟩
    have hi2 : i < Z.length := by omega
    obtain ⟨e2, e3⟩ := hx Z[i] (List.getElem_mem hi2)
    refine ⟨Z[i], by rw [← hZ, List.getElem?_map, List.getElem?_eq_getElem hi2]; rfl, fun j hj => ?_, e2, fun hp p e => (e3 hp p e).1⟩
    rw [Nat.zero_add, ho.cellAt (i * 2 + j) (by omega), flat_get prE_len Z i j hi2 hj]
end
set_option maxRecDepth 100000 in
theorem putG_len (c : Chg) (d : Bool) (L : List Pr) : (putG c d L).length ≤ L.length + 1 := by
  have h := (putG_perm c d L).length_eq
  have h2 : (L.filter (fun p => decide (p.1 ≠ c.key))).length ≤ L.length := List.length_filter_le _ _
  rw [h, List.length_append]
  have h3 : (if d = true then ([] : List Pr) else [(c.key, c.val)]).length ≤ 1 := by split <;> simp
  omega
set_option maxRecDepth 100000 in
theorem ptK_len (L : List Pr) (c : Chg) : (ptK L c).length ≤ L.length + 1 := putG_len c _ L
set_option maxRecDepth 100000 in
/-- what stands at the front of the rest -/
theorem putG_at {c : Chg} {d : Bool} {L : List Pr} {k : Nat} (h : k < L.length) : putG c d (L.drop k) = if d = false ∧ klt c.key (L[k]).1 then (c.key, c.val) :: (kp c.key L[k] ++ putG c true (L.drop (k + 1))) else kp c.key L[k] ++ putG c d (L.drop (k + 1)) := by
  rw [List.drop_eq_getElem_cons h]; rfl
set_option maxRecDepth 100000 in
theorem kp_ne {k : ByteArray} {p : Pr} (h : p.1 ≠ k) : kp k p = [p] := by unfold kp; rw [if_neg h]
set_option maxRecDepth 100000 in
theorem kp_eq {k : ByteArray} {p : Pr} (h : p.1 = k) : kp k p = [] := by unfold kp; rw [if_pos h]
set_option maxRecDepth 100000 in
set_option maxHeartbeats 4000000 in
set_option maxRecDepth 100000 in
theorem rput_any (B : Nat → Prop) (a : Option Addr) (n cap : Nat) (L : List Pr) (key : ByteArray) (del : Bool) (val : List Int) (ai : Option Addr) (ni ci : Nat) (w : World) (h : PT B w a n cap L) (hv : Bts w ai ni ci val) (hni : ni ≤ 1000000) (hn : n ≤ 1000000) :
    Calls Tryz.prog 54 #[.slice a n cap, .agg #[.string key, .bool del, .slice ai ni ci]] w fun e w' => ∃ v, e = .returned v ∧ QL w' w.heap.size (fun k => B k ∨ w.heap.size ≤ k) v (ptK L ⟨key, del, val⟩) ∧ Below w.heap.size w w' := by
  have HLW : Bx (PT (fun k => B k ∧ k < w.heap.size) w a n cap L) := ⟨h.mono (fun k hk hB => ⟨hB, hk⟩)⟩
  have HLEN : Bx (L.length = n) := ⟨h.len_eq⟩
  have hcl := h.le_cap
  have hcm := h.cap_le
  unfold maxLen at hcm
  have HLV : Bx (0 < ni → ∀ p, ai = some p → p.block < w.heap.size) := ⟨fun hp p e => hv.lt hp e⟩
  obtain ⟨i0, hi, hz0, hz1, hz2⟩ := info_parts Tryz.infoP
  obtain ⟨gc, HGC⟩ : ∃ gc, Bx (gc = w.heap.size) := ⟨_, ⟨rfl⟩⟩
  have hra := heap_alloc_new w (.cells #[.string key, .bool del, .slice ai ni ci] 48)
  have hba : Below w.heap.size w (w.alloc (.cells #[.string key, .bool del, .slice ai ni ci] 48)) := (Below.refl _ _).alloc (Nat.le_refl _) _
  rw [← HGC.out] at hra
  have d1 := cell_of_row _ gc 1 _ _ (0, 0) hra
  have HRA0 := Bx.mk hra
  have HBV0 := Bx.mk (hv.below hba)
  have HBW0 := Bx.mk hba
  have HE0 : Bx ([] ++ putG ⟨key, del, val⟩ del (L.drop 0) = ptK L ⟨key, del, val⟩) := ⟨rfl⟩
  clear h hv hra hba
  go_enter Tryz.func54, Tryz.ntmps54
  go_wp2_with fail
  rw [← HGC.out]
  generalize w.alloc (.cells #[.string key, .bool del, .slice ai ni ci] 48) = w0 at HRA0 HBV0 HBW0 d1 ⊢
  clear d1
  go_loopw [5, 6, 7] (fun o d i wr => ∃ (k : Nat) (dd : Bool) (P : List Pr), k ≤ n ∧ i = .int .i64 k ∧ d = .bool dd ∧ Bx (QL wr w.heap.size (fun k => B k ∨ w.heap.size ≤ k) o P) ∧ Bx (wr.heap[gc]? = some (.cells #[.string key, .bool del, .slice ai ni ci] 48 (0, 0))) ∧ Bx (Below w.heap.size w wr) ∧ Bx (Bts wr ai ni ci val) ∧ Bx (∀ j, o.ownBlock = some j → j ≠ gc) ∧ Bx (P ++ putG ⟨key, del, val⟩ dd (L.drop k) = ptK L ⟨key, del, val⟩)) (fun _ _ i _ => n - (intOf i).toNat)
  case atStart => exact ⟨0, del, [], Nat.zero_le _, rfl, rfl, ⟨QL.nil _ _ _⟩, HRA0, HBW0, HBV0, ⟨fun j hj => by simp [Value.ownBlock] at hj⟩, HE0⟩
  case round =>
    clear HRA0 HBW0 HBV0 HE0
    obtain ⟨k, dd, P, hkn, rfl, rfl, HP, HGB, HBW, HBV, HGV, HE⟩ := hrel
    obtain ⟨vP, hvP⟩ : ∃ x, x = u5 := ⟨_, rfl⟩
    subst hvP
    have hPl : P.length ≤ 1000001 := by
      have h1 := congrArg List.length HE.out
      have h2 := ptK_len L ⟨key, del, val⟩
      rw [List.length_append] at h1
      rw [HLEN.out] at h2
      omega
    by_cases hlt : k < n
    · have hkI : (k : Int) < (n : Int) := by omega
      have hkL : k < L.length := by rw [HLEN.out]; exact hlt
      obtain ⟨b, off, aj, nj, cj, rfl, hbl, hblw, x0w, x1w, hbtw, hlo⟩ := HLW.out.pr k hlt
      have HEQ : Bx (putG ⟨key, del, val⟩ dd (L.drop k) = _) := ⟨putG_at (c := ⟨key, del, val⟩) (d := dd) hkL⟩
      generalize hcc : L[k] = cc at x0w hbtw HEQ
      obtain ⟨kk, vv⟩ := cc
      simp only at x0w hbtw HEQ
      have HX : Bx (∀ W, Below w.heap.size w W → W.cell? ⟨b, off + k * 2, none⟩ = some (.string kk) ∧ W.cell? ⟨b, off + k * 2 + 1, none⟩ = some (.slice aj nj cj) ∧ Bts W aj nj cj vv) := ⟨fun W hW => ⟨(hW.cell (p := ⟨b, off + k * 2, none⟩) hbl).trans x0w, (hW.cell (p := ⟨b, off + k * 2 + 1, none⟩) hbl).trans x1w, hbtw.below hW⟩⟩
      have HLO := Bx.mk hlo
      obtain ⟨x0, x1, _⟩ := HX.out wr HBW.out
      have y0 : wr.cell? ⟨gc, 0, none⟩ = some (.string key) := cell_of_row wr gc 0 _ _ (0, 0) HGB.out
      clear hcc x0w x1w hbtw hlo hbl hblw HLW
      by_cases hins : dd = false ∧ klt key kk
      · obtain ⟨rfl, hkl⟩ := hins
        have hne : kk ≠ key := fun e => klt_irrefl _ (by rw [e] at hkl; exact hkl)
        have HEA : Bx ((P ++ [(key, val)] ++ [(kk, vv)]) ++ putG ⟨key, del, val⟩ true (L.drop (k + 1)) = ptK L ⟨key, del, val⟩) := ⟨by
          rw [← HE.out, HEQ.out, if_pos ⟨rfl, hkl⟩, kp_ne hne]; simp⟩
        have gl : Op.bytesLess key.toList kk.toList = true := by rw [bless]; exact decide_eq_true hkl
        have gk : (kk.toList == key.toList) = false := str_ne hne
        clear HE HEQ hkl hne
        go_wp2_with fail
        go_quiet (fail)
        have hk : (wr.drewN nq).heap[gc]? = some (.cells #[.string key, .bool del, .slice ai ni ci] 48 (0, 0)) := HGB.out
        replace HP := Bx.mk (HP.out.drewN nq)
        replace HBV := Bx.mk (HBV.out.below (below_drewN (Below.refl _ _) nq))
        replace HBW := Bx.mk (bstep HBW.out (below_drewN (Below.refl _ _) nq))
        have hsl : (wr.drewN nq).heap.size = (wr.drewN nq).heap.size := rfl
        generalize wr.drewN nq = wq at HP HBV HBW hk hsl ⊢
        clear HGB x0 x1 y0 hsl
        obtain ⟨x0, x1, hbj⟩ := HX.out wq HBW.out
        have HBJ := Bx.mk hbj
        clear hbj
        have y0 : wq.cell? ⟨gc, 0, none⟩ = some (.string key) := cell_of_row wq gc 0 _ _ (0, 0) hk
        go_wp2_with fail
        clear x0 x1 y0 HBJ
        refine wp_region_held_drew (S := fun W => W.heap[gc]? = some (.cells #[.string key, .bool del, .slice ai ni ci] 48 (0, 0))) (by kernel_rfl) hk (fun _ => ?_)
        generalize hwd : wq.drew = wd
        replace HP : Bx (QL wd _ _ _ _) := ⟨by rw [← hwd]; exact HP.out.drewN 1⟩
        replace HBV : Bx (Bts wd _ _ _ _) := ⟨by rw [← hwd]; exact HBV.out.keep (fun _ _ _ => rfl) (Nat.le_refl _)⟩
        replace HBW : Bx (Below w.heap.size w wd) := ⟨by rw [← hwd]; exact ⟨HBW.out.os, HBW.out.tape, HBW.out.output, HBW.out.size, HBW.out.block⟩⟩
        replace hk : wd.heap[gc]? = some (.cells #[.string key, .bool del, .slice ai ni ci] 48 (0, 0)) := by rw [← hwd]; exact hk
        clear hwd
        refine wpAnyH_take (i := 0) (oi := ⟨some 28, .move (.tmp 5), 60, "ref.go:158", #[], none⟩) (v := ?vput71) rfl (by kernel_rfl) (by kernel_rfl) (by kernel_rfl) (fun _ _ _ h => h) (Or.inl ⟨by rfl, ?yput71⟩) hk ?rput71
        case yput71 => (intro w hSw; (try dsimp only at hSw); go_simp; first | done | with_reducible rfl)
        simp only [Act.put, List.setIfInBounds_toArray, List.set_cons_zero, List.set_cons_succ]
        refine wpAnyH_take (i := 1) (oi := ⟨some 29, .fieldAddr 48 (.tmp 3) 0, 0, "ref.go:158", #[], none⟩) (v := ?vput72) rfl (by kernel_rfl) (by kernel_rfl) (by kernel_rfl) (fun _ _ _ h => h) (Or.inl ⟨by rfl, ?yput72⟩) hk ?rput72
        case yput72 => (intro w hSw; (try dsimp only at hSw); go_simp; first | done | with_reducible rfl)
        simp only [Act.put, List.setIfInBounds_toArray, List.set_cons_zero, List.set_cons_succ]
        refine wpAnyH_take (i := 2) (oi := ⟨some 30, .load 9 (.tmp 29), 9, "ref.go:158", #[⟨1, .data⟩], none⟩) (v := ?vput73) rfl (by kernel_rfl) (by kernel_rfl) (by kernel_rfl) (fun _ _ _ h => h) (Or.inl ⟨by rfl, ?yput73⟩) hk ?rput73
        case yput73 => (intro w hSw; have hcw := ((cell_of_row w gc 0 _ _ (0, 0) hSw).trans rfl : w.cell? ⟨gc, 0, none⟩ = some (.string key)); clear hSw; go_simp; first | done | with_reducible rfl)
        simp only [Act.put, List.setIfInBounds_toArray, List.set_cons_zero, List.set_cons_succ]
        refine wpAnyH_take (i := 3) (oi := ⟨some 31, .fieldAddr 48 (.tmp 3) 2, 0, "ref.go:158", #[], none⟩) (v := ?vput74) rfl (by kernel_rfl) (by kernel_rfl) (by kernel_rfl) (fun _ _ _ h => h) (Or.inl ⟨by rfl, ?yput74⟩) hk ?rput74
        case yput74 => (intro w hSw; (try dsimp only at hSw); go_simp; first | done | with_reducible rfl)
        simp only [Act.put, List.setIfInBounds_toArray, List.set_cons_zero, List.set_cons_succ]
        refine wpAnyH_take (i := 4) (oi := ⟨some 32, .load 46 (.tmp 31), 46, "ref.go:158", #[⟨3, .data⟩], none⟩) (v := ?vput75) rfl (by kernel_rfl) (by kernel_rfl) (by kernel_rfl) (fun _ _ _ h => h) (Or.inl ⟨by rfl, ?yput75⟩) hk ?rput75
        case yput75 => (intro w hSw; have hcw := ((cell_of_row w gc 2 _ _ (0, 0) hSw).trans rfl : w.cell? ⟨gc, 2, none⟩ = some (.slice ai ni ci)); clear hSw; go_simp; first | done | with_reducible rfl)
        simp only [Act.put, List.setIfInBounds_toArray, List.set_cons_zero, List.set_cons_succ]
        refine wpAnyH_ready (rs := [5]) (by decide +kernel) (by simp) ?_
        refine AllReadyH.cons (o := ⟨some 33, .call { callee := .value (.func 40), args := #[.tmp 32], argTypes := #[46] }, 46, "ref.go:158", #[⟨4, .data⟩], none⟩) rfl (fun K hK => ?_) AllReadyH.nil
        go_simp
        refine (copy_any ai ni ci val _ HBV.out (by omega)).mono ?_
        rintro e7 w7 ⟨v7, rfl, hown7, hb7⟩
        obtain ⟨a7, c7, rfl, hm7⟩ := Bts.of_owns hown7 HBV.out.byt
        have HM7 := Bx.mk hm7
        have HN7 : Bx (0 < ni → ∀ q, a7 = some q → (B q.block ∨ w.heap.size ≤ q.block) ∧ vP.ownBlock ≠ some q.block) := ⟨fun h0 q e => by
          have h1 := (own_ge hown7 q e).1
          have h2 := HBW.out.size
          refine ⟨.inr (by omega), fun e2 => ?_⟩
          have h3 := HP.out.lt e2
          omega⟩
        replace hk := (hb7.block gc (Array.getElem?_eq_some_iff.1 hk).1).trans hk
        replace HP := Bx.mk (HP.out.below hb7)
        replace HBV := Bx.mk (HBV.out.below hb7)
        replace HBW := Bx.mk (bstep HBW.out hb7)
        clear hown7 hb7 hm7
        refine hK.out _ _ hk (fun _ => ?_)
        clear hK K
        try simp only [Act.put, List.setIfInBounds_toArray, List.set_cons_zero, List.set_cons_succ]
        refine wpAnyH_take (i := 6) (oi := ⟨some 34, .build 114 #[(0, .tmp 30), (1, .tmp 33)], 114, "ref.go:158", #[⟨2, .data⟩, ⟨5, .data⟩], none⟩) (v := ?vput76) rfl (by kernel_rfl) (by kernel_rfl) (by kernel_rfl) (fun _ _ _ h => h) (Or.inl ⟨by rfl, ?yput76⟩) hk ?rput76
        case yput76 => (intro w hSw; (try dsimp only at hSw); go_simp; first | done | with_reducible rfl)
        simp only [Act.put, List.setIfInBounds_toArray, List.set_cons_zero, List.set_cons_succ]
        refine wpAnyH_ready (rs := [7]) (by decide +kernel) (by simp) ?_
        refine AllReadyH.cons (o := ⟨some 35, .buildSlice 60 1 #[(0, .tmp 34)], 60, "ref.go:158", #[⟨6, .data⟩], none⟩) rfl (fun K hK => ?_) AllReadyH.nil
        go_simp
        have hbA : Below w7.heap.size w7 (w7.alloc (.cells #[.string key, .slice a7 ni c7] 114)) := (Below.refl _ _).alloc (Nat.le_refl _) _
        have HNW := Bx.mk (World.news_of_block (heap_alloc_new w7 (.cells #[.string key, .slice a7 ni c7] 114)))
        replace hk := (hbA.block gc (Array.getElem?_eq_some_iff.1 hk).1).trans hk
        replace HP := Bx.mk (HP.out.below hbA)
        replace HBV := Bx.mk (HBV.out.below hbA)
        replace HBW := Bx.mk (bstep HBW.out hbA)
        replace HM7 := Bx.mk (HM7.out.below hbA)
        clear hbA
        generalize w7.heap.size = G at HNW ⊢
        generalize w7.alloc (.cells #[.string key, .slice a7 ni c7] 114) = w8 at hk HNW HP HBV HBW HM7 ⊢
        refine hK.out _ _ hk (fun _ => ?_)
        clear hK K
        try simp only [Act.put, List.setIfInBounds_toArray, List.set_cons_zero, List.set_cons_succ]
        refine wpAnyH_ready (rs := [8]) (by decide +kernel) (by simp) ?_
        refine AllReadyH.cons (o := ⟨some 36, .call { callee := .builtin Builtin.append, args := #[.tmp 28, .tmp 35], argTypes := #[60, 60] }, 60, "ref.go:158", #[⟨0, .data⟩, ⟨7, .data⟩, ⟨5, .chain⟩], none⟩) rfl (fun K hK => ?_) AllReadyH.nil
        obtain ⟨Z, hown, HQA⟩ := HP.out.open
        have HVK : Bx (∀ j, vP.ownBlock = some j → w.heap.size ≤ j) := ⟨fun j hj => (hown.lt j hj).1⟩
        refine step_append_lies _ rfl (.tmp 28) (.tmp 35) 60 rfl w.heap.size 114 i0 (.agg #[.string ⟨#[]⟩, .slice none 0 0]) 2 40 Tryz.underlying60 hi hz0 hz1 hz2 rfl (by decide) _ P.length (Z.flatMap prE) rfl hown ⟨G, 0, none⟩ 1 1 [.string key, .slice a7 ni c7] rfl rfl HNW.out (by simp [Value.oneCell']) (by decide) (by unfold maxLen; omega) (by omega) HBW.out.size _ rfl ?_
        intro g4 cap4 w4 hown4 hgr4 hl4 hlt4
        have hl5 : vP.ownBlock = some g4 ∨ w8.heap.size ≤ g4 := by
          rcases hl4 with h1 | h1
          · exact .inl h1
          · exact .inr (by omega)
        have HP4 : Bx (QL w4 w.heap.size (fun k => B k ∨ w.heap.size ≤ k) (.slice (some ⟨g4, 0, none⟩) (P.length + 1) cap4) (P ++ [(key, val)])) := ⟨HQA.out.done (z := ⟨(key, val), a7, ni, c7⟩) rfl rfl HM7.out HN7.out hown4 hgr4 hl5⟩
        have HK4 : Bx (Below w.heap.size w w4) := ⟨HBW.out.grown hgr4 HBW.out.size (fun j hj => HVK.out j hj)⟩
        have HBV4 : Bx (Bts w4 ai ni ci val) := ⟨HBV.out.keep (fun hp p e => hgr4.block _ (HBV.out.lt hp e) (fun e2 => by have h1 := HVK.out _ e2.symm; have h2 := HLV.out hp p e; omega)) hgr4.size⟩
        have hgc8 := (Array.getElem?_eq_some_iff.1 hk).1
        replace hk := (hgr4.block gc (Array.getElem?_eq_some_iff.1 hk).1 (fun e => HGV.out gc e.symm rfl)).trans hk
        have HGV4 : Bx (∀ j, (Value.slice (some ⟨g4, 0, none⟩) (P.length + 1) cap4).ownBlock = some j → j ≠ gc) := ⟨fun j hj => by
          have e : g4 = j := by simpa [Value.ownBlock] using hj
          subst e
          rcases hl5 with h1 | h1
          · exact HGV.out _ h1
          · intro e; omega⟩
        clear hown hown4 hgr4 hl4 hl5 HNW HVK HQA HM7 HN7 HBW HP hlt4 HBV hgc8 HGV
        refine hK.out _ _ hk (fun _ => ?_)
        clear hK K
        try simp only [Act.put, List.setIfInBounds_toArray, List.set_cons_zero, List.set_cons_succ]
        refine wpAnyH_take (i := 9) (oi := ⟨some 5, .assign (.tmp 36), 60, "ref.go:158", #[⟨8, .data⟩, ⟨8, .chain⟩, ⟨0, .phase⟩, ⟨1, .phase⟩, ⟨2, .phase⟩, ⟨3, .phase⟩, ⟨4, .phase⟩, ⟨5, .phase⟩, ⟨6, .phase⟩, ⟨7, .phase⟩, ⟨8, .phase⟩], none⟩) (v := ?vput77) rfl (by kernel_rfl) (by kernel_rfl) (by kernel_rfl) (fun _ _ _ h => h) (Or.inl ⟨by rfl, ?yput77⟩) hk ?rput77
        case yput77 => (intro w hSw; (try dsimp only at hSw); go_simp; first | done | with_reducible rfl)
        simp only [Act.put, List.setIfInBounds_toArray, List.set_cons_zero, List.set_cons_succ]
        refine wpAnyH_done (by decide +kernel) ?_ _
        clear gl
        have HGB : Bx (w4.heap[gc]? = some (.cells #[.string key, .bool del, .slice ai ni ci] 48 (0, 0))) := ⟨hk⟩
        have HP := HP4
        have HBV := HBV4
        have HBW := HK4
        have HGV := HGV4
        obtain ⟨x0, x1, _⟩ := HX.out w4 HBW.out
        have y0 : w4.cell? ⟨gc, 0, none⟩ = some (.string key) := cell_of_row w4 gc 0 _ _ (0, 0) hk
        clear HP4 HBV4 HK4 HGV4 hk
        have hPl2 : (P ++ [(key, val)]).length ≤ 1000002 := by rw [List.length_append]; simp; omega
        generalize (Value.slice (some ⟨g4, 0, none⟩) (P.length + 1) cap4) = vP at HP HGV ⊢
        generalize P ++ [(key, val)] = P at HP HEA hPl2
        go_wp2_with fail
        go_quiet (fail)
        have hk : (w4.drewN nq).heap[gc]? = some (.cells #[.string key, .bool del, .slice ai ni ci] 48 (0, 0)) := HGB.out
        replace HP := Bx.mk (HP.out.drewN nq)
        replace HBV := Bx.mk (HBV.out.below (below_drewN (Below.refl _ _) nq))
        replace HBW := Bx.mk (bstep HBW.out (below_drewN (Below.refl _ _) nq))
        have hsl : (w4.drewN nq).heap.size = (w4.drewN nq).heap.size := rfl
        generalize w4.drewN nq = wq at HP HBV HBW hk hsl ⊢
        clear HGB x0 x1 y0 hsl
        obtain ⟨x0, x1, hbj⟩ := HX.out wq HBW.out
        have HBJ := Bx.mk hbj
        clear hbj
        have y0 : wq.cell? ⟨gc, 0, none⟩ = some (.string key) := cell_of_row wq gc 0 _ _ (0, 0) hk
        -- the old pair goes over
        obtain ⟨Z, hown, HQA⟩ := HP.out.open
        have HVK : Bx (∀ j, vP.ownBlock = some j → w.heap.size ≤ j) := ⟨fun j hj => (hown.lt j hj).1⟩
        have HNV : Bx (0 < nj → ∀ q, aj = some q → (B q.block ∨ w.heap.size ≤ q.block) ∧ vP.ownBlock ≠ some q.block) := ⟨fun h0 q e => ⟨.inl (HLO.out h0 q e).1, fun e2 => by have h1 := HVK.out _ e2; have h2 := (HLO.out h0 q e).2; omega⟩⟩
        have hbA : Below wq.heap.size wq (wq.alloc (.cells #[.string kk, .slice aj nj cj] 114)) := (Below.refl _ _).alloc (Nat.le_refl _) _
        have HNW := Bx.mk (World.news_of_block (heap_alloc_new wq (.cells #[.string kk, .slice aj nj cj] 114)))
        have HOA := Bx.mk (hown.alloc (.cells #[.string kk, .slice aj nj cj] 114))
        have HQA2 : Bx (QA (wq.alloc (.cells #[.string kk, .slice aj nj cj] 114)) (fun k => B k ∨ w.heap.size ≤ k) vP P Z) := ⟨⟨HQA.out.z, fun z hz => ⟨(HQA.out.b z hz).1.below hbA, (HQA.out.b z hz).2⟩⟩⟩
        have HMJ : Bx (Bts (wq.alloc (.cells #[.string kk, .slice aj nj cj] 114)) aj nj cj vv) := ⟨HBJ.out.below hbA⟩
        have HBV2 : Bx (Bts (wq.alloc (.cells #[.string kk, .slice aj nj cj] 114)) ai ni ci val) := ⟨HBV.out.below hbA⟩
        have HBW2 : Bx (Below w.heap.size w (wq.alloc (.cells #[.string kk, .slice aj nj cj] 114))) := ⟨bstep HBW.out hbA⟩
        have HGC2 : Bx ((wq.alloc (.cells #[.string kk, .slice aj nj cj] 114)).heap[gc]? = some (.cells #[.string key, .bool del, .slice ai ni ci] 48 (0, 0))) := ⟨(hbA.block gc (Array.getElem?_eq_some_iff.1 hk).1).trans hk⟩
        have hs9 : (wq.alloc (.cells #[.string kk, .slice aj nj cj] 114)).heap.size = wq.heap.size + 1 := by simp
        have HS9 := Bx.mk hs9
        have hlq := HBW.out.size
        clear hown hbA hs9 HP HQA HBV HBW
        go_wp2_with (at_builtin; refine wpList_append_lies _ rfl (.tmp 45) (.tmp 50) 60 rfl w.heap.size 114 i0 (.agg #[.string ⟨#[]⟩, .slice none 0 0]) 2 40 Tryz.underlying60 hi hz0 hz1 hz2 rfl (by decide) _ P.length (Z.flatMap prE) rfl HOA.out ⟨wq.heap.size, 0, none⟩ 1 1 [.string kk, .slice aj nj cj] rfl rfl HNW.out (by simp [Value.oneCell']) (by decide) (by unfold maxLen; omega) (by omega) HBW2.out.size _ rfl ?_)
        intro g4 cap4 w4 hown4 hgr4 hl4 hlt4
        have hl5 : vP.ownBlock = some g4 ∨ wq.heap.size + 1 ≤ g4 := by
          rcases hl4 with h1 | h1
          · exact .inl h1
          · exact .inr (by have := HS9.out; omega)
        have HP5 : Bx (QL w4 w.heap.size (fun k => B k ∨ w.heap.size ≤ k) (.slice (some ⟨g4, 0, none⟩) (P.length + 1) cap4) (P ++ [(kk, vv)])) := ⟨HQA2.out.done (z := ⟨(kk, vv), aj, nj, cj⟩) rfl rfl HMJ.out HNV.out hown4 hgr4 (by rcases hl5 with h1 | h1; exact .inl h1; exact .inr (by rw [HS9.out]; exact h1))⟩
        have HK5 : Bx (Below w.heap.size w w4) := ⟨HBW2.out.grown hgr4 HBW2.out.size (fun j hj => HVK.out j hj)⟩
        have HBV5 : Bx (Bts w4 ai ni ci val) := ⟨HBV2.out.keep (fun hp p e => hgr4.block _ (HBV2.out.lt hp e) (fun e2 => by have h1 := HVK.out _ e2.symm; have h2 := HLV.out hp p e; omega)) hgr4.size⟩
        have HGC5 : Bx (w4.heap[gc]? = some (.cells #[.string key, .bool del, .slice ai ni ci] 48 (0, 0))) := ⟨(hgr4.block gc (Array.getElem?_eq_some_iff.1 HGC2.out).1 (fun e => HGV.out gc e.symm rfl)).trans HGC2.out⟩
        have HGV5 : Bx (∀ j, (Value.slice (some ⟨g4, 0, none⟩) (P.length + 1) cap4).ownBlock = some j → j ≠ gc) := ⟨fun j hj => by
          have e : g4 = j := by simpa [Value.ownBlock] using hj
          subst e
          rcases hl5 with h1 | h1
          · exact HGV.out _ h1
          · have h9 := (Array.getElem?_eq_some_iff.1 hk).1
            intro e; omega⟩
        clear hown4 hgr4 hl4 hl5 HNW HVK HOA HQA2 HMJ HBV2 HBW2 HGC2 hlt4 HNV HGV hk
        go_wp2_with fail
        go_roundw
        case rel => exact ⟨k + 1, true, _, by omega, by go_num, rfl, HP5, HGC5, HK5, HBV5, HGV5, HEA⟩
        case measure => simp [intOf]; omega
      · rw [if_neg hins] at HEQ
        have hgl : dd = true ∨ (dd = false ∧ Op.bytesLess key.toList kk.toList = false) := by
          cases dd with
          | true => exact .inl rfl
          | false => exact .inr ⟨rfl, by rw [bless]; exact decide_eq_false (fun h => hins ⟨rfl, h⟩)⟩
        clear hins
        by_cases hne : kk = key
        · have HEC : Bx (P ++ putG ⟨key, del, val⟩ dd (L.drop (k + 1)) = ptK L ⟨key, del, val⟩) := ⟨by rw [← HE.out, HEQ.out, kp_eq hne]; rfl⟩
          have gk : (kk.toList == key.toList) = true := str_eq hne
          clear HE HEQ hne
          rcases hgl with rfl | ⟨rfl, gl⟩
          · go_wp2_with fail
            go_quiet (fail)
            have hk : (wr.drewN nq).heap[gc]? = some (.cells #[.string key, .bool del, .slice ai ni ci] 48 (0, 0)) := HGB.out
            replace HP := Bx.mk (HP.out.drewN nq)
            replace HBV := Bx.mk (HBV.out.below (below_drewN (Below.refl _ _) nq))
            replace HBW := Bx.mk (bstep HBW.out (below_drewN (Below.refl _ _) nq))
            have hsl : (wr.drewN nq).heap.size = (wr.drewN nq).heap.size := rfl
            generalize wr.drewN nq = wq at HP HBV HBW hk hsl ⊢
            clear HGB x0 x1 y0 hsl
            obtain ⟨x0, x1, hbj⟩ := HX.out wq HBW.out
            have HBJ := Bx.mk hbj
            clear hbj
            have y0 : wq.cell? ⟨gc, 0, none⟩ = some (.string key) := cell_of_row wq gc 0 _ _ (0, 0) hk
            have HGB := Bx.mk hk
            clear hk HBJ
            go_wp2_with fail
            go_quiet (fail)
            have hk : (wq.drewN nq).heap[gc]? = some (.cells #[.string key, .bool del, .slice ai ni ci] 48 (0, 0)) := HGB.out
            replace HP := Bx.mk (HP.out.drewN nq)
            replace HBV := Bx.mk (HBV.out.below (below_drewN (Below.refl _ _) nq))
            replace HBW := Bx.mk (bstep HBW.out (below_drewN (Below.refl _ _) nq))
            have hsl : (wq.drewN nq).heap.size = (wq.drewN nq).heap.size := rfl
            generalize wq.drewN nq = wq at HP HBV HBW hk hsl ⊢
            clear HGB x0 x1 y0 hsl
            obtain ⟨x0, x1, hbj⟩ := HX.out wq HBW.out
            have HBJ := Bx.mk hbj
            clear hbj
            have y0 : wq.cell? ⟨gc, 0, none⟩ = some (.string key) := cell_of_row wq gc 0 _ _ (0, 0) hk
            have HGB := Bx.mk hk
            go_wp2_with fail
            go_roundw
            case rel => exact ⟨k + 1, true, P, by omega, by go_num, rfl, HP, HGB, HBW, HBV, HGV, HEC⟩
            case measure => simp [intOf]; omega
          · go_wp2_with fail
            go_quiet (fail)
            have hk : (wr.drewN nq).heap[gc]? = some (.cells #[.string key, .bool del, .slice ai ni ci] 48 (0, 0)) := HGB.out
            replace HP := Bx.mk (HP.out.drewN nq)
            replace HBV := Bx.mk (HBV.out.below (below_drewN (Below.refl _ _) nq))
            replace HBW := Bx.mk (bstep HBW.out (below_drewN (Below.refl _ _) nq))
            have hsl : (wr.drewN nq).heap.size = (wr.drewN nq).heap.size := rfl
            generalize wr.drewN nq = wq at HP HBV HBW hk hsl ⊢
            clear HGB x0 x1 y0 hsl
            obtain ⟨x0, x1, hbj⟩ := HX.out wq HBW.out
            have HBJ := Bx.mk hbj
            clear hbj
            have y0 : wq.cell? ⟨gc, 0, none⟩ = some (.string key) := cell_of_row wq gc 0 _ _ (0, 0) hk
            have HGB := Bx.mk hk
            clear hk HBJ gl
            go_wp2_with fail
            go_quiet (fail)
            have hk : (wq.drewN nq).heap[gc]? = some (.cells #[.string key, .bool del, .slice ai ni ci] 48 (0, 0)) := HGB.out
            replace HP := Bx.mk (HP.out.drewN nq)
            replace HBV := Bx.mk (HBV.out.below (below_drewN (Below.refl _ _) nq))
            replace HBW := Bx.mk (bstep HBW.out (below_drewN (Below.refl _ _) nq))
            have hsl : (wq.drewN nq).heap.size = (wq.drewN nq).heap.size := rfl
            generalize wq.drewN nq = wq at HP HBV HBW hk hsl ⊢
            clear HGB x0 x1 y0 hsl
            obtain ⟨x0, x1, hbj⟩ := HX.out wq HBW.out
            have HBJ := Bx.mk hbj
            clear hbj
            have y0 : wq.cell? ⟨gc, 0, none⟩ = some (.string key) := cell_of_row wq gc 0 _ _ (0, 0) hk
            have HGB := Bx.mk hk
            go_wp2_with fail
            go_roundw
            case rel => exact ⟨k + 1, false, P, by omega, by go_num, rfl, HP, HGB, HBW, HBV, HGV, HEC⟩
            case measure => simp [intOf]; omega
        · have HEB : Bx ((P ++ [(kk, vv)]) ++ putG ⟨key, del, val⟩ dd (L.drop (k + 1)) = ptK L ⟨key, del, val⟩) := ⟨by rw [← HE.out, HEQ.out, kp_ne hne]; simp⟩
          have gk : (kk.toList == key.toList) = false := str_ne hne
          clear HE HEQ hne
          rcases hgl with rfl | ⟨rfl, gl⟩
          · go_wp2_with fail
            go_quiet (fail)
            have hk : (wr.drewN nq).heap[gc]? = some (.cells #[.string key, .bool del, .slice ai ni ci] 48 (0, 0)) := HGB.out
            replace HP := Bx.mk (HP.out.drewN nq)
            replace HBV := Bx.mk (HBV.out.below (below_drewN (Below.refl _ _) nq))
            replace HBW := Bx.mk (bstep HBW.out (below_drewN (Below.refl _ _) nq))
            have hsl : (wr.drewN nq).heap.size = (wr.drewN nq).heap.size := rfl
            generalize wr.drewN nq = wq at HP HBV HBW hk hsl ⊢
            clear HGB x0 x1 y0 hsl
            obtain ⟨x0, x1, hbj⟩ := HX.out wq HBW.out
            have HBJ := Bx.mk hbj
            clear hbj
            have y0 : wq.cell? ⟨gc, 0, none⟩ = some (.string key) := cell_of_row wq gc 0 _ _ (0, 0) hk
            have HGB := Bx.mk hk
            clear hk HBJ
            go_wp2_with fail
            go_quiet (fail)
            have hk : (wq.drewN nq).heap[gc]? = some (.cells #[.string key, .bool del, .slice ai ni ci] 48 (0, 0)) := HGB.out
            replace HP := Bx.mk (HP.out.drewN nq)
            replace HBV := Bx.mk (HBV.out.below (below_drewN (Below.refl _ _) nq))
            replace HBW := Bx.mk (bstep HBW.out (below_drewN (Below.refl _ _) nq))
            have hsl : (wq.drewN nq).heap.size = (wq.drewN nq).heap.size := rfl
            generalize wq.drewN nq = wq at HP HBV HBW hk hsl ⊢
            clear HGB x0 x1 y0 hsl
            obtain ⟨x0, x1, hbj⟩ := HX.out wq HBW.out
            have HBJ := Bx.mk hbj
            clear hbj
            have y0 : wq.cell? ⟨gc, 0, none⟩ = some (.string key) := cell_of_row wq gc 0 _ _ (0, 0) hk
            -- the old pair goes over
            obtain ⟨Z, hown, HQA⟩ := HP.out.open
            have HVK : Bx (∀ j, vP.ownBlock = some j → w.heap.size ≤ j) := ⟨fun j hj => (hown.lt j hj).1⟩
            have HNV : Bx (0 < nj → ∀ q, aj = some q → (B q.block ∨ w.heap.size ≤ q.block) ∧ vP.ownBlock ≠ some q.block) := ⟨fun h0 q e => ⟨.inl (HLO.out h0 q e).1, fun e2 => by have h1 := HVK.out _ e2; have h2 := (HLO.out h0 q e).2; omega⟩⟩
            have hbA : Below wq.heap.size wq (wq.alloc (.cells #[.string kk, .slice aj nj cj] 114)) := (Below.refl _ _).alloc (Nat.le_refl _) _
            have HNW := Bx.mk (World.news_of_block (heap_alloc_new wq (.cells #[.string kk, .slice aj nj cj] 114)))
            have HOA := Bx.mk (hown.alloc (.cells #[.string kk, .slice aj nj cj] 114))
            have HQA2 : Bx (QA (wq.alloc (.cells #[.string kk, .slice aj nj cj] 114)) (fun k => B k ∨ w.heap.size ≤ k) vP P Z) := ⟨⟨HQA.out.z, fun z hz => ⟨(HQA.out.b z hz).1.below hbA, (HQA.out.b z hz).2⟩⟩⟩
            have HMJ : Bx (Bts (wq.alloc (.cells #[.string kk, .slice aj nj cj] 114)) aj nj cj vv) := ⟨HBJ.out.below hbA⟩
            have HBV2 : Bx (Bts (wq.alloc (.cells #[.string kk, .slice aj nj cj] 114)) ai ni ci val) := ⟨HBV.out.below hbA⟩
            have HBW2 : Bx (Below w.heap.size w (wq.alloc (.cells #[.string kk, .slice aj nj cj] 114))) := ⟨bstep HBW.out hbA⟩
            have HGC2 : Bx ((wq.alloc (.cells #[.string kk, .slice aj nj cj] 114)).heap[gc]? = some (.cells #[.string key, .bool del, .slice ai ni ci] 48 (0, 0))) := ⟨(hbA.block gc (Array.getElem?_eq_some_iff.1 hk).1).trans hk⟩
            have hs9 : (wq.alloc (.cells #[.string kk, .slice aj nj cj] 114)).heap.size = wq.heap.size + 1 := by simp
            have HS9 := Bx.mk hs9
            have hlq := HBW.out.size
            clear hown hbA hs9 HP HQA HBV HBW
            go_wp2_with (at_builtin; refine wpList_append_lies _ rfl (.tmp 45) (.tmp 50) 60 rfl w.heap.size 114 i0 (.agg #[.string ⟨#[]⟩, .slice none 0 0]) 2 40 Tryz.underlying60 hi hz0 hz1 hz2 rfl (by decide) _ P.length (Z.flatMap prE) rfl HOA.out ⟨wq.heap.size, 0, none⟩ 1 1 [.string kk, .slice aj nj cj] rfl rfl HNW.out (by simp [Value.oneCell']) (by decide) (by unfold maxLen; omega) (by omega) HBW2.out.size _ rfl ?_)
            intro g4 cap4 w4 hown4 hgr4 hl4 hlt4
            have hl5 : vP.ownBlock = some g4 ∨ wq.heap.size + 1 ≤ g4 := by
              rcases hl4 with h1 | h1
              · exact .inl h1
              · exact .inr (by have := HS9.out; omega)
            have HP5 : Bx (QL w4 w.heap.size (fun k => B k ∨ w.heap.size ≤ k) (.slice (some ⟨g4, 0, none⟩) (P.length + 1) cap4) (P ++ [(kk, vv)])) := ⟨HQA2.out.done (z := ⟨(kk, vv), aj, nj, cj⟩) rfl rfl HMJ.out HNV.out hown4 hgr4 (by rcases hl5 with h1 | h1; exact .inl h1; exact .inr (by rw [HS9.out]; exact h1))⟩
            have HK5 : Bx (Below w.heap.size w w4) := ⟨HBW2.out.grown hgr4 HBW2.out.size (fun j hj => HVK.out j hj)⟩
            have HBV5 : Bx (Bts w4 ai ni ci val) := ⟨HBV2.out.keep (fun hp p e => hgr4.block _ (HBV2.out.lt hp e) (fun e2 => by have h1 := HVK.out _ e2.symm; have h2 := HLV.out hp p e; omega)) hgr4.size⟩
            have HGC5 : Bx (w4.heap[gc]? = some (.cells #[.string key, .bool del, .slice ai ni ci] 48 (0, 0))) := ⟨(hgr4.block gc (Array.getElem?_eq_some_iff.1 HGC2.out).1 (fun e => HGV.out gc e.symm rfl)).trans HGC2.out⟩
            have HGV5 : Bx (∀ j, (Value.slice (some ⟨g4, 0, none⟩) (P.length + 1) cap4).ownBlock = some j → j ≠ gc) := ⟨fun j hj => by
              have e : g4 = j := by simpa [Value.ownBlock] using hj
              subst e
              rcases hl5 with h1 | h1
              · exact HGV.out _ h1
              · have h9 := (Array.getElem?_eq_some_iff.1 hk).1
                intro e; omega⟩
            clear hown4 hgr4 hl4 hl5 HNW HVK HOA HQA2 HMJ HBV2 HBW2 HGC2 hlt4 HNV HGV hk
            go_wp2_with fail
            go_roundw
            case rel => exact ⟨k + 1, true, _, by omega, by go_num, rfl, HP5, HGC5, HK5, HBV5, HGV5, HEB⟩
            case measure => simp [intOf]; omega
          · go_wp2_with fail
            go_quiet (fail)
            have hk : (wr.drewN nq).heap[gc]? = some (.cells #[.string key, .bool del, .slice ai ni ci] 48 (0, 0)) := HGB.out
            replace HP := Bx.mk (HP.out.drewN nq)
            replace HBV := Bx.mk (HBV.out.below (below_drewN (Below.refl _ _) nq))
            replace HBW := Bx.mk (bstep HBW.out (below_drewN (Below.refl _ _) nq))
            have hsl : (wr.drewN nq).heap.size = (wr.drewN nq).heap.size := rfl
            generalize wr.drewN nq = wq at HP HBV HBW hk hsl ⊢
            clear HGB x0 x1 y0 hsl
            obtain ⟨x0, x1, hbj⟩ := HX.out wq HBW.out
            have HBJ := Bx.mk hbj
            clear hbj
            have y0 : wq.cell? ⟨gc, 0, none⟩ = some (.string key) := cell_of_row wq gc 0 _ _ (0, 0) hk
            have HGB := Bx.mk hk
            clear hk HBJ gl
            go_wp2_with fail
            go_quiet (fail)
            have hk : (wq.drewN nq).heap[gc]? = some (.cells #[.string key, .bool del, .slice ai ni ci] 48 (0, 0)) := HGB.out
            replace HP := Bx.mk (HP.out.drewN nq)
            replace HBV := Bx.mk (HBV.out.below (below_drewN (Below.refl _ _) nq))
            replace HBW := Bx.mk (bstep HBW.out (below_drewN (Below.refl _ _) nq))
            have hsl : (wq.drewN nq).heap.size = (wq.drewN nq).heap.size := rfl
            generalize wq.drewN nq = wq at HP HBV HBW hk hsl ⊢
            clear HGB x0 x1 y0 hsl
            obtain ⟨x0, x1, hbj⟩ := HX.out wq HBW.out
            have HBJ := Bx.mk hbj
            clear hbj
            have y0 : wq.cell? ⟨gc, 0, none⟩ = some (.string key) := cell_of_row wq gc 0 _ _ (0, 0) hk
            -- the old pair goes over
            obtain ⟨Z, hown, HQA⟩ := HP.out.open
            have HVK : Bx (∀ j, vP.ownBlock = some j → w.heap.size ≤ j) := ⟨fun j hj => (hown.lt j hj).1⟩
            have HNV : Bx (0 < nj → ∀ q, aj = some q → (B q.block ∨ w.heap.size ≤ q.block) ∧ vP.ownBlock ≠ some q.block) := ⟨fun h0 q e => ⟨.inl (HLO.out h0 q e).1, fun e2 => by have h1 := HVK.out _ e2; have h2 := (HLO.out h0 q e).2; omega⟩⟩
            have hbA : Below wq.heap.size wq (wq.alloc (.cells #[.string kk, .slice aj nj cj] 114)) := (Below.refl _ _).alloc (Nat.le_refl _) _
            have HNW := Bx.mk (World.news_of_block (heap_alloc_new wq (.cells #[.string kk, .slice aj nj cj] 114)))
            have HOA := Bx.mk (hown.alloc (.cells #[.string kk, .slice aj nj cj] 114))
            have HQA2 : Bx (QA (wq.alloc (.cells #[.string kk, .slice aj nj cj] 114)) (fun k => B k ∨ w.heap.size ≤ k) vP P Z) := ⟨⟨HQA.out.z, fun z hz => ⟨(HQA.out.b z hz).1.below hbA, (HQA.out.b z hz).2⟩⟩⟩
            have HMJ : Bx (Bts (wq.alloc (.cells #[.string kk, .slice aj nj cj] 114)) aj nj cj vv) := ⟨HBJ.out.below hbA⟩
            have HBV2 : Bx (Bts (wq.alloc (.cells #[.string kk, .slice aj nj cj] 114)) ai ni ci val) := ⟨HBV.out.below hbA⟩
            have HBW2 : Bx (Below w.heap.size w (wq.alloc (.cells #[.string kk, .slice aj nj cj] 114))) := ⟨bstep HBW.out hbA⟩
            have HGC2 : Bx ((wq.alloc (.cells #[.string kk, .slice aj nj cj] 114)).heap[gc]? = some (.cells #[.string key, .bool del, .slice ai ni ci] 48 (0, 0))) := ⟨(hbA.block gc (Array.getElem?_eq_some_iff.1 hk).1).trans hk⟩
            have hs9 : (wq.alloc (.cells #[.string kk, .slice aj nj cj] 114)).heap.size = wq.heap.size + 1 := by simp
            have HS9 := Bx.mk hs9
            have hlq := HBW.out.size
            clear hown hbA hs9 HP HQA HBV HBW
            go_wp2_with (at_builtin; refine wpList_append_lies _ rfl (.tmp 45) (.tmp 50) 60 rfl w.heap.size 114 i0 (.agg #[.string ⟨#[]⟩, .slice none 0 0]) 2 40 Tryz.underlying60 hi hz0 hz1 hz2 rfl (by decide) _ P.length (Z.flatMap prE) rfl HOA.out ⟨wq.heap.size, 0, none⟩ 1 1 [.string kk, .slice aj nj cj] rfl rfl HNW.out (by simp [Value.oneCell']) (by decide) (by unfold maxLen; omega) (by omega) HBW2.out.size _ rfl ?_)
            intro g4 cap4 w4 hown4 hgr4 hl4 hlt4
            have hl5 : vP.ownBlock = some g4 ∨ wq.heap.size + 1 ≤ g4 := by
              rcases hl4 with h1 | h1
              · exact .inl h1
              · exact .inr (by have := HS9.out; omega)
            have HP5 : Bx (QL w4 w.heap.size (fun k => B k ∨ w.heap.size ≤ k) (.slice (some ⟨g4, 0, none⟩) (P.length + 1) cap4) (P ++ [(kk, vv)])) := ⟨HQA2.out.done (z := ⟨(kk, vv), aj, nj, cj⟩) rfl rfl HMJ.out HNV.out hown4 hgr4 (by rcases hl5 with h1 | h1; exact .inl h1; exact .inr (by rw [HS9.out]; exact h1))⟩
            have HK5 : Bx (Below w.heap.size w w4) := ⟨HBW2.out.grown hgr4 HBW2.out.size (fun j hj => HVK.out j hj)⟩
            have HBV5 : Bx (Bts w4 ai ni ci val) := ⟨HBV2.out.keep (fun hp p e => hgr4.block _ (HBV2.out.lt hp e) (fun e2 => by have h1 := HVK.out _ e2.symm; have h2 := HLV.out hp p e; omega)) hgr4.size⟩
            have HGC5 : Bx (w4.heap[gc]? = some (.cells #[.string key, .bool del, .slice ai ni ci] 48 (0, 0))) := ⟨(hgr4.block gc (Array.getElem?_eq_some_iff.1 HGC2.out).1 (fun e => HGV.out gc e.symm rfl)).trans HGC2.out⟩
            have HGV5 : Bx (∀ j, (Value.slice (some ⟨g4, 0, none⟩) (P.length + 1) cap4).ownBlock = some j → j ≠ gc) := ⟨fun j hj => by
              have e : g4 = j := by simpa [Value.ownBlock] using hj
              subst e
              rcases hl5 with h1 | h1
              · exact HGV.out _ h1
              · have h9 := (Array.getElem?_eq_some_iff.1 hk).1
                intro e; omega⟩
            clear hown4 hgr4 hl4 hl5 HNW HVK HOA HQA2 HMJ HBV2 HBW2 HGC2 hlt4 HNV HGV hk
            go_wp2_with fail
            go_roundw
            case rel => exact ⟨k + 1, false, _, by omega, by go_num, rfl, HP5, HGC5, HK5, HBV5, HGV5, HEB⟩
            case measure => simp [intOf]; omega
    · have hkI : ¬ (k : Int) < (n : Int) := by omega
      have hdr : L.drop k = [] := List.drop_eq_nil_of_le (by rw [HLEN.out]; omega)
      rw [hdr] at HE
      clear hdr
      cases dd with
      | true =>
        have HF : Bx (QL wr w.heap.size (fun k => B k ∨ w.heap.size ≤ k) vP (ptK L ⟨key, del, val⟩)) := ⟨by rw [← HE.out]; simpa [putG] using HP.out⟩
        obtain ⟨aP, cP, hv9, _⟩ := HF.out.form
        subst hv9
        clear HP HE
        go_wp2_with fail
        go_ret
        exact ⟨_, rfl, HF.out, HBW.out⟩
      | false =>
        have HEF : Bx (P ++ [(key, val)] = ptK L ⟨key, del, val⟩) := ⟨by rw [← HE.out]; rfl⟩
        obtain ⟨wq, hwq⟩ : ∃ x, x = wr := ⟨_, rfl⟩
        subst hwq
        have hk := HGB.out
        clear HE HGB
        go_wp2_with fail
        refine wp_region_held_drew (S := fun W => W.heap[gc]? = some (.cells #[.string key, .bool del, .slice ai ni ci] 48 (0, 0))) (by kernel_rfl) hk (fun _ => ?_)
        generalize hwd : wq.drew = wd
        replace HP : Bx (QL wd _ _ _ _) := ⟨by rw [← hwd]; exact HP.out.drewN 1⟩
        replace HBV : Bx (Bts wd _ _ _ _) := ⟨by rw [← hwd]; exact HBV.out.keep (fun _ _ _ => rfl) (Nat.le_refl _)⟩
        replace HBW : Bx (Below w.heap.size w wd) := ⟨by rw [← hwd]; exact ⟨HBW.out.os, HBW.out.tape, HBW.out.output, HBW.out.size, HBW.out.block⟩⟩
        replace hk : wd.heap[gc]? = some (.cells #[.string key, .bool del, .slice ai ni ci] 48 (0, 0)) := by rw [← hwd]; exact hk
        clear hwd
        refine wpAnyH_take (i := 0) (oi := ⟨some 54, .move (.tmp 5), 60, "ref.go:166", #[], none⟩) (v := ?vput121) rfl (by kernel_rfl) (by kernel_rfl) (by kernel_rfl) (fun _ _ _ h => h) (Or.inl ⟨by rfl, ?yput121⟩) hk ?rput121
        case yput121 => (intro w hSw; (try dsimp only at hSw); go_simp; first | done | with_reducible rfl)
        simp only [Act.put, List.setIfInBounds_toArray, List.set_cons_zero, List.set_cons_succ]
        refine wpAnyH_take (i := 1) (oi := ⟨some 55, .fieldAddr 48 (.tmp 3) 0, 0, "ref.go:166", #[], none⟩) (v := ?vput122) rfl (by kernel_rfl) (by kernel_rfl) (by kernel_rfl) (fun _ _ _ h => h) (Or.inl ⟨by rfl, ?yput122⟩) hk ?rput122
        case yput122 => (intro w hSw; (try dsimp only at hSw); go_simp; first | done | with_reducible rfl)
        simp only [Act.put, List.setIfInBounds_toArray, List.set_cons_zero, List.set_cons_succ]
        refine wpAnyH_take (i := 2) (oi := ⟨some 56, .load 9 (.tmp 55), 9, "ref.go:166", #[⟨1, .data⟩], none⟩) (v := ?vput123) rfl (by kernel_rfl) (by kernel_rfl) (by kernel_rfl) (fun _ _ _ h => h) (Or.inl ⟨by rfl, ?yput123⟩) hk ?rput123
        case yput123 => (intro w hSw; have hcw := ((cell_of_row w gc 0 _ _ (0, 0) hSw).trans rfl : w.cell? ⟨gc, 0, none⟩ = some (.string key)); clear hSw; go_simp; first | done | with_reducible rfl)
        simp only [Act.put, List.setIfInBounds_toArray, List.set_cons_zero, List.set_cons_succ]
        refine wpAnyH_take (i := 3) (oi := ⟨some 57, .fieldAddr 48 (.tmp 3) 2, 0, "ref.go:166", #[], none⟩) (v := ?vput124) rfl (by kernel_rfl) (by kernel_rfl) (by kernel_rfl) (fun _ _ _ h => h) (Or.inl ⟨by rfl, ?yput124⟩) hk ?rput124
        case yput124 => (intro w hSw; (try dsimp only at hSw); go_simp; first | done | with_reducible rfl)
        simp only [Act.put, List.setIfInBounds_toArray, List.set_cons_zero, List.set_cons_succ]
        refine wpAnyH_take (i := 4) (oi := ⟨some 58, .load 46 (.tmp 57), 46, "ref.go:166", #[⟨3, .data⟩], none⟩) (v := ?vput125) rfl (by kernel_rfl) (by kernel_rfl) (by kernel_rfl) (fun _ _ _ h => h) (Or.inl ⟨by rfl, ?yput125⟩) hk ?rput125
        case yput125 => (intro w hSw; have hcw := ((cell_of_row w gc 2 _ _ (0, 0) hSw).trans rfl : w.cell? ⟨gc, 2, none⟩ = some (.slice ai ni ci)); clear hSw; go_simp; first | done | with_reducible rfl)
        simp only [Act.put, List.setIfInBounds_toArray, List.set_cons_zero, List.set_cons_succ]
        refine wpAnyH_ready (rs := [5]) (by decide +kernel) (by simp) ?_
        refine AllReadyH.cons (o := ⟨some 59, .call { callee := .value (.func 40), args := #[.tmp 58], argTypes := #[46] }, 46, "ref.go:166", #[⟨4, .data⟩], none⟩) rfl (fun K hK => ?_) AllReadyH.nil
        go_simp
        refine (copy_any ai ni ci val _ HBV.out (by omega)).mono ?_
        rintro e7 w7 ⟨v7, rfl, hown7, hb7⟩
        obtain ⟨a7, c7, rfl, hm7⟩ := Bts.of_owns hown7 HBV.out.byt
        have HM7 := Bx.mk hm7
        have HN7 : Bx (0 < ni → ∀ q, a7 = some q → (B q.block ∨ w.heap.size ≤ q.block) ∧ vP.ownBlock ≠ some q.block) := ⟨fun h0 q e => by
          have h1 := (own_ge hown7 q e).1
          have h2 := HBW.out.size
          refine ⟨.inr (by omega), fun e2 => ?_⟩
          have h3 := HP.out.lt e2
          omega⟩
        replace hk := (hb7.block gc (Array.getElem?_eq_some_iff.1 hk).1).trans hk
        replace HP := Bx.mk (HP.out.below hb7)
        replace HBV := Bx.mk (HBV.out.below hb7)
        replace HBW := Bx.mk (bstep HBW.out hb7)
        clear hown7 hb7 hm7
        refine hK.out _ _ hk (fun _ => ?_)
        clear hK K
        try simp only [Act.put, List.setIfInBounds_toArray, List.set_cons_zero, List.set_cons_succ]
        refine wpAnyH_take (i := 6) (oi := ⟨some 60, .build 114 #[(0, .tmp 56), (1, .tmp 59)], 114, "ref.go:166", #[⟨2, .data⟩, ⟨5, .data⟩], none⟩) (v := ?vput126) rfl (by kernel_rfl) (by kernel_rfl) (by kernel_rfl) (fun _ _ _ h => h) (Or.inl ⟨by rfl, ?yput126⟩) hk ?rput126
        case yput126 => (intro w hSw; (try dsimp only at hSw); go_simp; first | done | with_reducible rfl)
        simp only [Act.put, List.setIfInBounds_toArray, List.set_cons_zero, List.set_cons_succ]
        refine wpAnyH_ready (rs := [7]) (by decide +kernel) (by simp) ?_
        refine AllReadyH.cons (o := ⟨some 61, .buildSlice 60 1 #[(0, .tmp 60)], 60, "ref.go:166", #[⟨6, .data⟩], none⟩) rfl (fun K hK => ?_) AllReadyH.nil
        go_simp
        have hbA : Below w7.heap.size w7 (w7.alloc (.cells #[.string key, .slice a7 ni c7] 114)) := (Below.refl _ _).alloc (Nat.le_refl _) _
        have HNW := Bx.mk (World.news_of_block (heap_alloc_new w7 (.cells #[.string key, .slice a7 ni c7] 114)))
        replace hk := (hbA.block gc (Array.getElem?_eq_some_iff.1 hk).1).trans hk
        replace HP := Bx.mk (HP.out.below hbA)
        replace HBV := Bx.mk (HBV.out.below hbA)
        replace HBW := Bx.mk (bstep HBW.out hbA)
        replace HM7 := Bx.mk (HM7.out.below hbA)
        clear hbA
        generalize w7.heap.size = G at HNW ⊢
        generalize w7.alloc (.cells #[.string key, .slice a7 ni c7] 114) = w8 at hk HNW HP HBV HBW HM7 ⊢
        refine hK.out _ _ hk (fun _ => ?_)
        clear hK K
        try simp only [Act.put, List.setIfInBounds_toArray, List.set_cons_zero, List.set_cons_succ]
        refine wpAnyH_ready (rs := [8]) (by decide +kernel) (by simp) ?_
        refine AllReadyH.cons (o := ⟨some 62, .call { callee := .builtin Builtin.append, args := #[.tmp 54, .tmp 61], argTypes := #[60, 60] }, 60, "ref.go:166", #[⟨0, .data⟩, ⟨7, .data⟩, ⟨5, .chain⟩], none⟩) rfl (fun K hK => ?_) AllReadyH.nil
        obtain ⟨Z, hown, HQA⟩ := HP.out.open
        have HVK : Bx (∀ j, vP.ownBlock = some j → w.heap.size ≤ j) := ⟨fun j hj => (hown.lt j hj).1⟩
        refine step_append_lies _ rfl (.tmp 54) (.tmp 61) 60 rfl w.heap.size 114 i0 (.agg #[.string ⟨#[]⟩, .slice none 0 0]) 2 40 Tryz.underlying60 hi hz0 hz1 hz2 rfl (by decide) _ P.length (Z.flatMap prE) rfl hown ⟨G, 0, none⟩ 1 1 [.string key, .slice a7 ni c7] rfl rfl HNW.out (by simp [Value.oneCell']) (by decide) (by unfold maxLen; omega) (by omega) HBW.out.size _ rfl ?_
        intro g4 cap4 w4 hown4 hgr4 hl4 hlt4
        have hl5 : vP.ownBlock = some g4 ∨ w8.heap.size ≤ g4 := by
          rcases hl4 with h1 | h1
          · exact .inl h1
          · exact .inr (by omega)
        have HP4 : Bx (QL w4 w.heap.size (fun k => B k ∨ w.heap.size ≤ k) (.slice (some ⟨g4, 0, none⟩) (P.length + 1) cap4) (P ++ [(key, val)])) := ⟨HQA.out.done (z := ⟨(key, val), a7, ni, c7⟩) rfl rfl HM7.out HN7.out hown4 hgr4 hl5⟩
        have HK4 : Bx (Below w.heap.size w w4) := ⟨HBW.out.grown hgr4 HBW.out.size (fun j hj => HVK.out j hj)⟩
        have HBV4 : Bx (Bts w4 ai ni ci val) := ⟨HBV.out.keep (fun hp p e => hgr4.block _ (HBV.out.lt hp e) (fun e2 => by have h1 := HVK.out _ e2.symm; have h2 := HLV.out hp p e; omega)) hgr4.size⟩
        have hgc8 := (Array.getElem?_eq_some_iff.1 hk).1
        replace hk := (hgr4.block gc (Array.getElem?_eq_some_iff.1 hk).1 (fun e => HGV.out gc e.symm rfl)).trans hk
        have HGV4 : Bx (∀ j, (Value.slice (some ⟨g4, 0, none⟩) (P.length + 1) cap4).ownBlock = some j → j ≠ gc) := ⟨fun j hj => by
          have e : g4 = j := by simpa [Value.ownBlock] using hj
          subst e
          rcases hl5 with h1 | h1
          · exact HGV.out _ h1
          · intro e; omega⟩
        clear hown hown4 hgr4 hl4 hl5 HNW HVK HQA HM7 HN7 HBW HP hlt4 HBV hgc8 HGV
        refine hK.out _ _ hk (fun _ => ?_)
        clear hK K
        try simp only [Act.put, List.setIfInBounds_toArray, List.set_cons_zero, List.set_cons_succ]
        refine wpAnyH_take (i := 9) (oi := ⟨some 5, .assign (.tmp 62), 60, "ref.go:166", #[⟨8, .data⟩, ⟨8, .chain⟩, ⟨0, .phase⟩, ⟨1, .phase⟩, ⟨2, .phase⟩, ⟨3, .phase⟩, ⟨4, .phase⟩, ⟨5, .phase⟩, ⟨6, .phase⟩, ⟨7, .phase⟩, ⟨8, .phase⟩], none⟩) (v := ?vput127) rfl (by kernel_rfl) (by kernel_rfl) (by kernel_rfl) (fun _ _ _ h => h) (Or.inl ⟨by rfl, ?yput127⟩) hk ?rput127
        case yput127 => (intro w hSw; (try dsimp only at hSw); go_simp; first | done | with_reducible rfl)
        simp only [Act.put, List.setIfInBounds_toArray, List.set_cons_zero, List.set_cons_succ]
        refine wpAnyH_done (by decide +kernel) ?_ _
        rw [HEF.out] at HP4
        clear hk HBV4 HGV4
        go_wp2_with fail
        go_ret
        exact ⟨_, rfl, HP4.out, HK4.out⟩
end Go.Proofs.YtjnjokbdoendkaaGreat
namespace Go.Proofs.YtjnjokbdoendkaaGreat
open Go.RowKit
set_option linter.unusedVariables false

set_option maxRecDepth 100000 in
theorem doneL_len (L : List Pr) (l : List Chg) : (doneL L l).length ≤ L.length + l.length := by
  unfold doneL
  induction l generalizing L with
  | nil => exact Nat.le_refl _
  | cons c t ih =>
    have h1 := ih (ptK L c)
    have h2 := ptK_len L c
    rw [List.foldl_cons, List.length_cons]
    omega
set_option maxRecDepth 100000 in
theorem doneL_step (L : List Pr) (l : List Chg) (k : Nat) (h : k < l.length) : doneL L (l.take (k + 1)) = ptK (doneL L (l.take k)) l[k] := by
  unfold doneL
  rw [List.take_succ_eq_append_getElem h, List.foldl_append]; rfl
set_option maxRecDepth 100000 in
set_option maxHeartbeats 4000000 in
set_option maxRecDepth 100000 in
theorem rdone_any (B Bc : Nat → Prop) (a ac : Option Addr) (n cap nc cc : Nat) (L : List Pr) (l : List Chg) (w : World) (h : PT B w a n cap L) (hc : CT Bc w ac nc cc l) (hvl : ∀ c ∈ l, c.val.length ≤ 1000000) (hn : n + nc ≤ 1000000) :
    Calls Tryz.prog 25 #[.slice a n cap, .slice ac nc cc] w fun e w' => ∃ a' n' c', e = .returned (.slice a' n' c') ∧ PT (fun k => B k ∨ w.heap.size ≤ k) w' a' n' c' (doneL L l) ∧ Below w.heap.size w w' := by
  have HCW : Bx (CT (fun k => k < w.heap.size) w ac nc cc l) := ⟨hc.low⟩
  have HLC : Bx (l.length = nc) := ⟨hc.len_eq⟩
  have HLL : Bx (L.length = n) := ⟨h.len_eq⟩
  have HVL := Bx.mk hvl
  have HP0 : Bx (PT (fun k => B k ∨ w.heap.size ≤ k) w a n cap (doneL L (l.take 0))) := ⟨by rw [List.take_zero]; exact h.mono (fun k _ hk => .inl hk)⟩
  clear h hc hvl
  go_enter Tryz.func25, Tryz.ntmps25
  go_wp2_with fail
  go_loopw [0, 5] (fun v i wr => ∃ (k : Nat) (a1 : Option Addr) (n1 c1 : Nat), k ≤ nc ∧ i = .int .i64 k ∧ v = .slice a1 n1 c1 ∧ Bx (PT (fun k => B k ∨ w.heap.size ≤ k) wr a1 n1 c1 (doneL L (l.take k))) ∧ Bx (Below w.heap.size w wr)) (fun _ i _ => nc - (intOf i).toNat)
  case atStart => exact ⟨0, a, n, cap, Nat.zero_le _, rfl, rfl, HP0, ⟨Below.refl _ _⟩⟩
  case round =>
    clear HP0
    obtain ⟨k, a1, n1, c1, hk, rfl, rfl, HP, HBW⟩ := hrel
    by_cases hlt : k < nc
    · have hkI : (k : Int) < (nc : Int) := by omega
      have hkL : k < l.length := by rw [HLC.out]; exact hlt
      have HST : Bx (doneL L (l.take (k + 1)) = ptK (doneL L (l.take k)) l[k]) := ⟨doneL_step L l k hkL⟩
      have hval := HVL.out _ (List.getElem_mem hkL)
      have hn1 : n1 ≤ 1000000 := by
        have h1 := doneL_len L (l.take k)
        have h2 := HP.out.len_eq
        have h3 := HLL.out
        rw [List.length_take] at h1
        omega
      obtain ⟨b, off, ai, ni, ci, rfl, hbl, _, x0, x1, x2, hbt, _⟩ := (HCW.out.stay HBW.out).chg k hlt
      generalize l[k] = c at x0 x1 hbt HST hval
      obtain ⟨kk, dd, vv⟩ := c
      simp only at x0 x1 hbt hval
      have hni : ni ≤ 1000000 := by rw [← hbt.len_eq]; exact hval
      have HBT := Bx.mk hbt
      clear hbt hval
      go_wp2_with fail
      refine (rput_any _ a1 n1 c1 _ kk dd vv ai ni ci _ HP.out HBT.out hni hn1).mono ?_
      rintro e w2 ⟨v2, rfl, hq, hb2⟩
      have hs := HBW.out.size
      obtain ⟨a2, c2, rfl, hp2⟩ := hq.pt (fun j hj => .inr hj)
      have HP2 : Bx (PT (fun k => B k ∨ w.heap.size ≤ k) w2 a2 (ptK (doneL L (l.take k)) ⟨kk, dd, vv⟩).length c2 (doneL L (l.take (k + 1)))) := ⟨by
        rw [HST.out]
        exact hp2.mono (fun j _ hj => by
          rcases hj with (h1 | h1) | h1
          · exact .inl h1
          · exact .inr h1
          · exact .inr (by omega))⟩
      have HB2 := Bx.mk (bstep HBW.out hb2)
      clear hq hp2 hb2 hs HST HP HBW x0 x1 x2 HBT
      generalize (ptK (doneL L (l.take k)) ⟨kk, dd, vv⟩).length = n2 at HP2 ⊢
      go_wp2_with fail
      go_roundw
      case rel => exact ⟨k + 1, a2, n2, c2, by omega, by go_num, rfl, HP2, HB2⟩
      case measure => simp [intOf]; omega
    · have hkI : ¬ (k : Int) < (nc : Int) := by omega
      have HF : Bx (PT (fun k => B k ∨ w.heap.size ≤ k) wr a1 n1 c1 (doneL L l)) := ⟨by have h1 := HP.out; rw [List.take_of_length_le (by rw [HLC.out]; omega)] at h1; exact h1⟩
      clear HP
      go_wp2_with fail
      go_ret
      exact ⟨_, _, _, rfl, HF.out, HBW.out⟩
set_option maxRecDepth 100000 in
theorem byM_take (L : List Pr) (k : Nat) (h : k < L.length) : byM (L.take (k + 1)) = byM (L.take k) + (L[k].1.size + L[k].2.length) := by
  rw [List.take_succ_eq_append_getElem h, byM_append]
  simp [byM]
set_option maxRecDepth 100000 in
theorem byM_take_le (L : List Pr) (k : Nat) : byM (L.take k) ≤ byM L := by
  have h : byM L = byM (L.take k) + byM (L.drop k) := by rw [← byM_append, List.take_append_drop]
  omega
set_option maxRecDepth 100000 in
set_option maxHeartbeats 4000000 in
set_option maxRecDepth 100000 in
theorem rbytes11_any (B : Nat → Prop) (a : Option Addr) (n cap : Nat) (L : List Pr) (w : World) (h : PT B w a n cap L) (hb : byM L ≤ 1000000000000) :
    Calls Tryz.prog 29 #[.slice a n cap] w fun e w' => e = .returned (.int .i64 (byM L)) ∧ ∃ q, w' = w.drewN q := by
  have HW := Bx.mk h
  have HLL : Bx (L.length = n) := ⟨h.len_eq⟩
  have hm := Nat.le_trans h.le_cap h.cap_le
  unfold maxLen at hm
  clear h
  go_enter Tryz.func29, Tryz.ntmps29
  go_wp2_with fail
  go_loopw [3, 4] (fun s i wr => ∃ (k m q : Nat), k ≤ n ∧ i = .int .i64 k ∧ s = .int .i64 m ∧ Bx (m = byM (L.take k)) ∧ Bx (wr = w.drewN q)) (fun _ i _ => n - (intOf i).toNat)
  case atStart => exact ⟨0, 0, 0, Nat.zero_le _, rfl, rfl, ⟨by rw [List.take_zero]; rfl⟩, ⟨rfl⟩⟩
  case round =>
    obtain ⟨k, m, q, hk, rfl, rfl, HM, HQ⟩ := hrel
    by_cases hlt : k < n
    · have hkI : (k : Int) < (n : Int) := by omega
      have hkL : k < L.length := by rw [HLL.out]; exact hlt
      have HST := Bx.mk (byM_take L k hkL)
      have hle := byM_take_le L (k + 1)
      obtain ⟨b, off, ai, ni, ci, rfl, hbl, _, x0, x1, hbt, _⟩ := HW.out.pr k hlt
      rw [HST.out, ← HM.out, hbt.len_eq] at hle
      have HST2 : Bx (m + (L[k].1.size + ni) = byM (L.take (k + 1))) := ⟨by rw [HST.out, ← HM.out, hbt.len_eq]⟩
      have y0 : wr.cell? ⟨b, off + k * 2, none⟩ = some (.string L[k].1) := by rw [HQ.out]; exact x0
      have y1 : wr.cell? ⟨b, off + k * 2 + 1, none⟩ = some (.slice ai ni ci) := by rw [HQ.out]; exact x1
      generalize L[k].1 = kk at y0 hle HST2
      have e1 : IntKind.i64.wrap ((m : Int) + (kk.size : Int)) = (m : Int) + (kk.size : Int) := IntWalk.i64_in _ (by omega)
      have e2 : IntKind.i64.wrap ((m : Int) + (kk.size : Int) + (ni : Int)) = (m : Int) + (kk.size : Int) + (ni : Int) := IntWalk.i64_in _ (by omega)
      clear x0 x1 hbt HST hbl HM
      go_wp2_with fail
      go_quiet (fail)
      have HQ2 : Bx (wr.drewN nq = w.drewN (q + nq)) := ⟨by rw [HQ.out]; exact World.drewN_drewN _ _ _⟩
      go_wp2_with fail
      go_roundw
      case rel => exact ⟨k + 1, m + (kk.size + ni), q + nq, by omega, by go_num, by go_num, HST2, HQ2⟩
      case measure => simp [intOf]; omega
    · have hkI : ¬ (k : Int) < (n : Int) := by omega
      have HF : Bx (m = byM L) := ⟨by have h1 := HM.out; rw [List.take_of_length_le (by rw [HLL.out]; omega)] at h1; exact h1⟩
      clear HM
      go_wp2_with fail
      go_ret
      exact ⟨by rw [← HF.out]; rfl, q, HQ.out⟩
set_option maxRecDepth 100000 in
theorem gtM_no_take {L : List Pr} {key : ByteArray} {k : Nat} (h : k < L.length) (hn : gtM (L.take k) key = none) (he : L[k].1 = key) : gtM L key = some L[k].2 := by
  have h1 : L = L.take k ++ L[k] :: L.drop (k + 1) := by
    conv => lhs; rw [← List.take_append_drop k L, List.drop_eq_getElem_cons h]
  have h3 : ∀ (A C : List Pr) (p : Pr), gtM A key = none → p.1 = key → gtM (A ++ p :: C) key = some p.2 := by
    intro A C p h4 h5
    unfold gtM at *
    have h2 : A.find? (fun p => decide (p.1 = key)) = none := by simpa using h4
    rw [List.find?_append, h2, List.find?_cons]
    simp [h5]
  exact (congrArg (fun X => gtM X key) h1).trans (h3 _ _ _ hn he)
set_option maxRecDepth 100000 in
theorem gtM_take_step {L : List Pr} {key : ByteArray} {k : Nat} (h : k < L.length) (hn : gtM (L.take k) key = none) (he : L[k].1 ≠ key) : gtM (L.take (k + 1)) key = none := by
  rw [List.take_succ_eq_append_getElem h]
  rw [gtM_none] at *
  intro p hp
  rcases List.mem_append.1 hp with h1 | h1
  · exact hn p h1
  · obtain rfl : p = L[k] := by simpa using h1
    exact he
set_option maxRecDepth 100000 in
set_option maxHeartbeats 4000000 in
set_option maxRecDepth 100000 in
theorem rget_any (B : Nat → Prop) (a : Option Addr) (n cap g : Nat) (L : List Pr) (key : ByteArray) (w : World) (h : PT B w a n cap L) (hc : w.cell? ⟨g, 2, none⟩ = some (.slice a n cap)) :
    Calls Tryz.prog 32 #[.pointer (some ⟨g, 0, none⟩), .string key] w fun e w' => ∃ a' n' c', e = .returned (.tuple #[.slice a' n' c', .bool (gtM L key).isSome]) ∧ Bts w a' n' c' ((gtM L key).getD []) ∧ w = w' := by
  have HW := Bx.mk h
  have HLL : Bx (L.length = n) := ⟨h.len_eq⟩
  have hm := Nat.le_trans h.le_cap h.cap_le
  unfold maxLen at hm
  clear h
  go_enter Tryz.func32, Tryz.ntmps32
  go_wp2_with fail
  go_loopw [6] (fun i wr => ∃ k : Nat, k ≤ n ∧ i = .int .i64 k ∧ wr = w ∧ Bx (gtM (L.take k) key = none)) (fun i _ => n - (intOf i).toNat)
  case atStart => exact ⟨0, Nat.zero_le _, rfl, rfl, ⟨by rw [List.take_zero]; rfl⟩⟩
  case round =>
    obtain ⟨k, hk, rfl, rfl, HN⟩ := hrel
    by_cases hlt : k < n
    · have hkI : (k : Int) < (n : Int) := by omega
      have hkL : k < L.length := by rw [HLL.out]; exact hlt
      obtain ⟨b, off, ai, ni, ci, rfl, hbl, _, x0, x1, hbt, _⟩ := HW.out.pr k hlt
      by_cases he : L[k].1 = key
      · have HG := Bx.mk (gtM_no_take hkL HN.out he)
        have HB : Bx (Bts wr ai ni ci ((gtM L key).getD []) ∧ (gtM L key).isSome = true) := ⟨by rw [HG.out]; exact ⟨hbt, rfl⟩⟩
        have gk : (L[k].1.toList == key.toList) = true := str_eq he
        clear HN HG he hbt
        go_wp2_with fail
        exact bodyPost_ret (v := .tuple #[.slice ai ni ci, .bool true]) (by simp [results, Tryz.results32, go_sem]) rfl ⟨_, _, _, by rw [HB.out.2], HB.out.1, rfl⟩
      · have HN2 := Bx.mk (gtM_take_step hkL HN.out he)
        have gk : (L[k].1.toList == key.toList) = false := str_ne he
        clear HN he hbt
        go_wp2_with fail
        go_roundw
        case rel => exact ⟨k + 1, by omega, by go_num, trivial, HN2⟩
        case measure => simp [intOf]; omega
    · have hkI : ¬ (k : Int) < (n : Int) := by omega
      have HF : Bx (gtM L key = none) := ⟨by have h1 := HN.out; rw [List.take_of_length_le (by rw [HLL.out]; omega)] at h1; exact h1⟩
      clear HN
      go_wp2_with fail
      exact bodyPost_ret (v := .tuple #[.slice none 0 0, .bool false]) (by simp [results, Tryz.results32, go_sem]) rfl ⟨none, 0, 0, by rw [HF.out]; rfl, by rw [HF.out]; exact ⟨rfl, Byt.nil, Nat.le_refl _, Nat.zero_le _, fun _ => rfl, fun hp => absurd hp (Nat.lt_irrefl _)⟩, rfl⟩
end Go.Proofs.YtjnjokbdoendkaaGreat
