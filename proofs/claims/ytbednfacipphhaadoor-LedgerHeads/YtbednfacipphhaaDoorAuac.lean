/- A row of numbers is equal to itself. Digests of whatever make behind an own row of digests; Few and Same of the document's own. -/
import Derived.Test.YtbednfacipphhaaDoorHSum
import Derived.Test.YtbednfacipphhaaDoorEqSelf
import Derived.ChangeKeysEq
import Derived.Test.YtbednfacipphhaaDoorAuau
import Derived.Test.YtbednfacipphhaaDoorAuas
namespace Go.Proofs.YtbednfacipphhaaDoor
open Go.RowKit
set_option linter.unusedVariables false

set_option maxRecDepth 100000 in
theorem st_eq (t : St) (w : World) : (Op.equalIn 10000 103 (.agg t.cells) (.agg t.cells)).run Tryd.prog w = .ok true w := by
  obtain ⟨i0, hi, hz0, hz1, hz2⟩ := info_parts Tryd.info32
  rw [show (10000 : Nat) = 9998 + 1 + 1 from rfl, run_equalIn_array w (9998 + 1) _ _ Tryd.underlying103 hi, show Tryd.prog.cellsOf 102 = 1 by kernel_rfl]
  refine eq_self 102 .u32 Tryd.underlying102 (by kernel_rfl) 9998 _ w _ (fun i hi => ?_)
  have hi8 : i < 8 := by simpa using hi
  rw [St.cells_list, List.getElem?_toArray]
  exact ⟨_, uv_getD t.list i hi8⟩
end Go.Proofs.YtbednfacipphhaaDoor
namespace Go.Proofs.YtbednfacipphhaaDoor
open Go.RowKit
set_option linter.unusedVariables false

set_option maxRecDepth 100000 in
theorem flat_len {L : List (List Int)} (h : Dgl L) : L.flatten.length = L.length * 32 := by
  induction L with
  | nil => rfl
  | cons d r ih =>
    have h1 := (h d (by simp)).1
    have h2 := ih (fun c hc => h c (by simp [hc]))
    simp only [List.flatten_cons, List.length_append, List.length_cons]
    omega
set_option maxRecDepth 100000 in
theorem flat_get {L : List (List Int)} (h : Dgl L) : ∀ j, j < 32 * L.length → L.flatten[j]? = (L.getD (j / 32) [])[j % 32]? := by
  induction L with
  | nil => intro j hj; simp at hj
  | cons d r ih =>
    intro j hj
    have h1 := (h d (by simp)).1
    rw [List.flatten_cons]
    by_cases hlt : j < 32
    · rw [List.getElem?_append_left (by omega), Nat.div_eq_of_lt hlt, Nat.mod_eq_of_lt hlt]; rfl
    · rw [List.getElem?_append_right (by omega), h1, ih (fun c hc => h c (by simp [hc])) (j - 32) (by rw [List.length_cons] at hj; omega), show (j - 32) / 32 = j / 32 - 1 from by omega, show (j - 32) % 32 = j % 32 from by omega]
      obtain ⟨q, hq⟩ : ∃ q, j / 32 = q + 1 := ⟨j / 32 - 1, by omega⟩
      rw [hq]; rfl
set_option maxRecDepth 100000 in
theorem Dgs.cells {w : World} {ad : Addr} {len cap : Nat} {L : List (List Int)} (h : Dgs w (some ad) len cap L) : ∀ j u, (bv L.flatten)[j]? = some u → w.cell? (ad.add j) = some u := by
  intro j u hj
  have hl := h.len_eq
  have hjl : j < 32 * L.length := by
    have := (List.getElem?_eq_some_iff.1 hj).1
    rw [bv_length, flat_len h.dig] at this; omega
  obtain ⟨b, off, e, _, hc⟩ := h.spot (by omega)
  cases e
  rw [Addr.add_lit]
  have h1 := hc (j / 32) (by omega) (j % 32) u (by
    unfold bv at hj ⊢
    rw [List.getElem?_map, flat_get h.dig j hjl] at hj
    rw [List.getElem?_map]; exact hj)
  rw [show off + 32 * (j / 32) + j % 32 = off + j from by omega] at h1
  exact h1
set_option maxRecDepth 100000 in
/-- what is owned reads as the digests -/
theorem Dgs.of_owns {w : World} {base n : Nat} {v : Value} {L : List (List Int)} (h : w.ownsRow base 30 32 v n (bv L.flatten)) (hL : Dgl L) :
    ∃ ao cap, v = .slice ao n cap ∧ Dgs w ao n cap L := by
  have hlen : L.length = n := by have := h.1; rw [bv_length, flat_len hL] at this; omega
  rcases h.2 with ⟨rfl, hn⟩ | ⟨g, cap, cur, rfl, hb, hg, hnc, hcm, hcs, ht⟩
  · subst hn
    exact ⟨_, 0, rfl, hlen, hL, Nat.le_refl _, Nat.zero_le _, fun _ => rfl, fun hp => absurd hp (Nat.lt_irrefl _)⟩
  · refine ⟨some ⟨g, 0, _⟩, cap, rfl, hlen, hL, hnc, hcm, (fun hh => by cases hh), fun _ => ⟨g, 0, rfl, (Array.getElem?_eq_some_iff.1 hg).1, fun i hi j v hj => ?_⟩⟩
    have hd := (hL.getD i (by omega)).1
    have hj32 : j < 32 := by have := (List.getElem?_eq_some_iff.1 hj).1; rw [bv_length, hd] at this; exact this
    rw [Nat.zero_add, h.cellAt (32 * i + j) (by omega)]
    unfold bv at hj ⊢
    rw [List.getElem?_map, flat_get hL (32 * i + j) (by omega), show (32 * i + j) / 32 = i from by omega, show (32 * i + j) % 32 = j from by omega, ← List.getElem?_map]
    exact hj
set_option maxRecDepth 100000 in
theorem flat_app (L M : List (List Int)) : bv (L ++ M).flatten = bv L.flatten ++ bv M.flatten := by rw [List.flatten_append, bv_append]
set_option maxRecDepth 100000 in
/-- digests of whatever make behind an own row -/
theorem wp_append_dgs {o : Oper} {a : Act} {w : World} {K : Act → World → Prop} {Q : Exit → Act → World → Prop} (s x : Operand)
    (ho : o.op = .call { callee := .builtin .append, args := #[s, x], argTypes := #[60, 60] })
    (base n : Nat) (v : Value) (L : List (List Int)) (hs : a.eval s = v) (hown : w.ownsRow base 30 32 v n (bv L.flatten))
    (ao : Option Addr) (m c : Nat) (M : List (List Int)) (hx : a.eval x = .slice ao m c) (hb : Dgs w ao m c M) (h63 : n + m ≤ 1099511627776) (hbase : base ≤ w.heap.size)
    (h : ∀ v' w', w'.ownsRow base 30 32 v' (n + m) (bv (L ++ M).flatten) → Below base w w' → w.grownBy w' v.ownBlock → K (a.put o.dst v') w') : o.wp Tryd.prog a w K Q := by
  obtain ⟨i0, hi, hz0, hz1, hz2⟩ := info_parts dgs_info
  have hu : Tryd.prog.underlying 60 = some (.slice 30) := Tryd.underlying60
  cases ao with
  | none =>
    have h0 := hb.nil rfl
    have h1 := hb.le_cap
    obtain rfl : c = 0 := h0
    obtain rfl : m = 0 := by omega
    obtain rfl : M = [] := List.eq_nil_of_length_eq_zero hb.len_eq
    have hrun := run_append_owned_none (P := Tryd.prog) (w := w) base 60 o.type 30 i0 32 hu hi v n (bv L.flatten) hown
    unfold Oper.wp
    simp [execOp, ho, resolve, invoke, builtin, hs, hx, hrun, Result.andThen]
    exact h _ _ (by rw [List.append_nil]; exact hown) (Below.refl _ _) ⟨rfl, rfl, rfl, Nat.le_refl _, fun _ _ _ => rfl⟩
  | some ad =>
    have hl := hb.len_eq
    refine wp_append_own w s x 60 ho base 30 i0 (.agg #[.int .u8 0, .int .u8 0, .int .u8 0, .int .u8 0, .int .u8 0, .int .u8 0, .int .u8 0, .int .u8 0, .int .u8 0, .int .u8 0, .int .u8 0, .int .u8 0, .int .u8 0, .int .u8 0, .int .u8 0, .int .u8 0, .int .u8 0, .int .u8 0, .int .u8 0, .int .u8 0, .int .u8 0, .int .u8 0, .int .u8 0, .int .u8 0, .int .u8 0, .int .u8 0, .int .u8 0, .int .u8 0, .int .u8 0, .int .u8 0, .int .u8 0, .int .u8 0]) 32 32 hu hi hz0 hz1 hz2 rfl (by decide) v n (bv L.flatten) hs hown ad m c (bv M.flatten) hx (by rw [bv_length, flat_len hb.dig]; omega) hb.cells (bv_one _) (by unfold maxLen; omega) (by omega) hbase ?_
    intro v' w' ho' hg _
    exact h v' w' (by rw [flat_app]; exact ho') ((Below.refl _ _).grown hg hbase (fun k hk => (hown.lt k hk).1)) hg
set_option maxRecDepth 100000 in
theorem wpList_append_dgs {ops : Array Oper} {rest : List Oper} {o : Oper} {a : Act} {w : World} {Q : Exit → Act → World → Prop} (hgd : o.guard = none) (s x : Operand)
    (ho : o.op = .call { callee := .builtin .append, args := #[s, x], argTypes := #[60, 60] })
    (base n : Nat) (v : Value) (L : List (List Int)) (hs : a.eval s = v) (hown : w.ownsRow base 30 32 v n (bv L.flatten))
    (ao : Option Addr) (m c : Nat) (M : List (List Int)) (hx : a.eval x = .slice ao m c) (hb : Dgs w ao m c M) (h63 : n + m ≤ 1099511627776) (hbase : base ≤ w.heap.size)
    (h : ∀ v' w', w'.ownsRow base 30 32 v' (n + m) (bv (L ++ M).flatten) → Below base w w' → w.grownBy w' v.ownBlock → wpList Tryd.prog ops Q rest (a.put o.dst v') w') : wpList Tryd.prog ops Q (o :: rest) a w :=
  wpList_plain hgd fun K hK => wp_append_dgs s x ho base n v L hs hown ao m c M hx hb h63 hbase (fun v' w' h1 h2 h3 => hK _ _ (h v' w' h1 h2 h3))
set_option maxRecDepth 100000 in
theorem step_append_dgs {ops : Array Oper} {o : Oper} {a : Act} {w : World} {K : Act → World → Prop} {Q : Exit → Act → World → Prop} {E : Prop} (hgd : o.guard = none) (s x : Operand)
    (ho : o.op = .call { callee := .builtin .append, args := #[s, x], argTypes := #[60, 60] })
    (base n : Nat) (v : Value) (L : List (List Int)) (hs : a.eval s = v) (hown : w.ownsRow base 30 32 v n (bv L.flatten))
    (ao : Option Addr) (m c : Nat) (M : List (List Int)) (hx : a.eval x = .slice ao m c) (hb : Dgs w ao m c M) (h63 : n + m ≤ 1099511627776) (hbase : base ≤ w.heap.size)
    (h : ∀ v' w', w'.ownsRow base 30 32 v' (n + m) (bv (L ++ M).flatten) → Below base w w' → w.grownBy w' v.ownBlock → K (a.put o.dst v') w') :
    if Region.wanted o (yielded ops a.tmps) = true then Oper.wp Tryd.prog o a w K Q else E := by
  have hw : Region.wanted o (yielded ops a.tmps) = true := by simp [Region.wanted, hgd]
  rw [if_pos hw]
  exact wp_append_dgs s x ho base n v L hs hown ao m c M hx hb h63 hbase h

set_option maxRecDepth 100000 in
set_option maxHeartbeats 1000000 in
theorem dsame_yes (a b : Option Addr) (n c d : Nat) (L : List (List Int)) (w : World) (ha : Dgs w a n c L) (hb : Dgs w b n d L) :
    Calls Tryd.prog 44 #[.slice a n c, .slice b n d] w fun e w' => e = .returned (.bool true) ∧ ∃ q, w' = w.drewN q := by
  have hc1 := ha.le_cap
  have hc2 := ha.cap_le
  have hl := ha.len_eq
  unfold maxLen at hc2
  have hq : ((n : Int) != (n : Int)) = false := by simp
  go_enter Tryd.func44, Tryd.ntmps44
  go_wp2
  go_loopw [5] (fun i wr => ∃ k q : Nat, k ≤ n ∧ i = .int .i64 k ∧ wr = w.drewN q) (fun i _ => n - (intOf i).toNat)
  case atStart => exact ⟨0, 0, Nat.zero_le _, rfl, rfl⟩
  case round =>
    obtain ⟨k, q, hk, rfl, hwr⟩ := hrel
    have HW : Hid (wr = w.drewN q) := hwr
    by_cases hlt : k < n
    · have ha1 : Dgs wr a n c L := by rw [hwr]; exact ha.drewN q
      have hb1 : Dgs wr b n d L := by rw [hwr]; exact hb.drewN q
      clear hwr
      obtain ⟨b1, o1, rfl, _, h1⟩ := ha1.spot (by omega)
      obtain ⟨b2, o2, rfl, _, h2⟩ := hb1.spot (by omega)
      have hD := ha.dig.getD k (by omega)
      have r1 := h1 k hlt
      have r2 := h2 k hlt
      have hi := dig_eq (L.getD k []) hD.1
      have hdi : (Tryd.prog.info? 30).map (·.size) = some (bv (L.getD k [])).length := by rw [bv_length, hD.1]; exact dig_info
      generalize L.getD k [] = D at r1 r2 hi hdi hD
      have hki : (k : Int) < (n : Int) := by omega
      clear h1 h2 ha1 hb1
      have hk : wr.drew.rangeAt b1 (o1 + k * 32) (bv D) ∧ wr.drew.rangeAt b2 (o2 + k * 32) (bv D) := by
        rw [Nat.mul_comm k 32]; exact ⟨r1, r2⟩
      have HQ : Hid (wr.drew = w.drewN (q + 1)) := by show _ = _; rw [HW.out]; rfl
      clear r1 r2 HW
      go_wp2_with fail
      refine wp_region_held_drew (S := fun W => W.rangeAt b1 (o1 + k * 32) (bv D) ∧ W.rangeAt b2 (o2 + k * 32) (bv D)) (by kernel_rfl) hk (fun _ => ?_)
      refine wpAnyH_take (i := 0) (oi := { dst := some 17, op := Op.move (Operand.tmp 0), type := 60, pos := "ref.go:180", after := #[], guard := none }) (v := ?vsame1) rfl (by kernel_rfl) (by kernel_rfl) (by kernel_rfl) (fun _ _ _ h => h) (Or.inl ⟨by rfl, ?ysame1⟩) hk ?rsame1
      case ysame1 => (intro w hSw; (try dsimp only at hSw); go_simp; first | done | with_reducible rfl)
      simp only [Act.put, List.setIfInBounds_toArray, List.set_cons_zero, List.set_cons_succ]
      refine wpAnyH_take (i := 1) (oi := { dst := some 18, op := Op.move (Operand.tmp 5), type := 3, pos := "ref.go:180", after := #[], guard := none }) (v := ?vsame2) rfl (by kernel_rfl) (by kernel_rfl) (by kernel_rfl) (fun _ _ _ h => h) (Or.inl ⟨by rfl, ?ysame2⟩) hk ?rsame2
      case ysame2 => (intro w hSw; (try dsimp only at hSw); go_simp; first | done | with_reducible rfl)
      simp only [Act.put, List.setIfInBounds_toArray, List.set_cons_zero, List.set_cons_succ]
      refine wpAnyH_take (i := 2) (oi := { dst := some 19, op := Op.indexAddr 60 (Operand.tmp 17) (Operand.tmp 18), type := 0, pos := "ref.go:180", after := #[{ on := 0, ground := Ground.data }, { on := 1, ground := Ground.data }], guard := none }) (v := ?vsame3) rfl (by kernel_rfl) (by kernel_rfl) (by kernel_rfl) (fun _ _ _ h => h) (Or.inl ⟨by rfl, ?ysame3⟩) hk ?rsame3
      case ysame3 => (intro w hSw; (try dsimp only at hSw); go_simp; first | done | with_reducible rfl)
      simp only [Act.put, List.setIfInBounds_toArray, List.set_cons_zero, List.set_cons_succ]
      refine wpAnyH_take (i := 3) (oi := { dst := some 20, op := Op.load 30 (Operand.tmp 19), type := 30, pos := "ref.go:180", after := #[{ on := 2, ground := Ground.data }], guard := none }) (v := .agg (bv D).toArray) rfl (by kernel_rfl) (by kernel_rfl) (by kernel_rfl) (fun _ _ _ h => h) (yieldsIf_load_mid (by rfl) 30 (.tmp 19) rfl b1 (o1 + k * 32) rfl (bv D) _ (fun w h => h.1) Tryd.underlying30 rfl hdi) hk ?_
      simp only [Act.put, List.setIfInBounds_toArray, List.set_cons_zero, List.set_cons_succ]
      refine wpAnyH_take (i := 4) (oi := { dst := some 21, op := Op.move (Operand.tmp 1), type := 60, pos := "ref.go:180", after := #[], guard := none }) (v := ?vsame4) rfl (by kernel_rfl) (by kernel_rfl) (by kernel_rfl) (fun _ _ _ h => h) (Or.inl ⟨by rfl, ?ysame4⟩) hk ?rsame4
      case ysame4 => (intro w hSw; (try dsimp only at hSw); go_simp; first | done | with_reducible rfl)
      simp only [Act.put, List.setIfInBounds_toArray, List.set_cons_zero, List.set_cons_succ]
      refine wpAnyH_take (i := 5) (oi := { dst := some 22, op := Op.move (Operand.tmp 5), type := 3, pos := "ref.go:180", after := #[], guard := none }) (v := ?vsame5) rfl (by kernel_rfl) (by kernel_rfl) (by kernel_rfl) (fun _ _ _ h => h) (Or.inl ⟨by rfl, ?ysame5⟩) hk ?rsame5
      case ysame5 => (intro w hSw; (try dsimp only at hSw); go_simp; first | done | with_reducible rfl)
      simp only [Act.put, List.setIfInBounds_toArray, List.set_cons_zero, List.set_cons_succ]
      refine wpAnyH_take (i := 6) (oi := { dst := some 23, op := Op.indexAddr 60 (Operand.tmp 21) (Operand.tmp 22), type := 0, pos := "ref.go:180", after := #[{ on := 4, ground := Ground.data }, { on := 5, ground := Ground.data }], guard := none }) (v := ?vsame6) rfl (by kernel_rfl) (by kernel_rfl) (by kernel_rfl) (fun _ _ _ h => h) (Or.inl ⟨by rfl, ?ysame6⟩) hk ?rsame6
      case ysame6 => (intro w hSw; (try dsimp only at hSw); go_simp; first | done | with_reducible rfl)
      simp only [Act.put, List.setIfInBounds_toArray, List.set_cons_zero, List.set_cons_succ]
      refine wpAnyH_take (i := 7) (oi := { dst := some 24, op := Op.load 30 (Operand.tmp 23), type := 30, pos := "ref.go:180", after := #[{ on := 6, ground := Ground.data }], guard := none }) (v := .agg (bv D).toArray) rfl (by kernel_rfl) (by kernel_rfl) (by kernel_rfl) (fun _ _ _ h => h) (yieldsIf_load_mid (by rfl) 30 (.tmp 23) rfl b2 (o2 + k * 32) rfl (bv D) _ (fun w h => h.2) Tryd.underlying30 rfl hdi) hk ?_
      simp only [Act.put, List.setIfInBounds_toArray, List.set_cons_zero, List.set_cons_succ]
      refine wpAnyH_take (i := 8) (oi := { dst := some 25, op := Op.binOp BinOp.neq 30 (Operand.tmp 20) (Operand.tmp 24) 30, type := 4, pos := "ref.go:180", after := #[{ on := 3, ground := Ground.data }, { on := 7, ground := Ground.data }], guard := none }) (v := ?vsame7) rfl (by kernel_rfl) (by kernel_rfl) (by kernel_rfl) (fun _ _ _ h => h) (Or.inl ⟨by rfl, ?ysame7⟩) hk ?rsame7
      case ysame7 => (intro w hSw; (try dsimp only at hSw); go_simp; first | done | with_reducible rfl)
      simp only [Act.put, List.setIfInBounds_toArray, List.set_cons_zero, List.set_cons_succ]
      refine wpAnyH_done (by decide +kernel) ?_ _
      clear hk
      go_wp2
      go_roundw
      case rel => exact ⟨k + 1, q + 1, by omega, by go_num, HQ.out⟩
      case measure => simp [intOf]; omega
    · clear hwr
      go_wp2
      go_ret
      exact ⟨rfl, q, HW.out⟩
end Go.Proofs.YtbednfacipphhaaDoor
