/- A row of numbers is equal to itself. Digests of whatever make behind an own row of digests; Few and Same of the document's own. What mac's sumBehind and Sum answer. -/
import Derived.Test.YtbednfacipphhaaDoorHSum
import Derived.Test.YtbednfacipphhaaDoorEqSelf
import Derived.ChangeKeysEq
import Derived.Test.YtbednfacipphhaaDoorAuau
import Derived.Test.YtbednfacipphhaaDoorAuas
import Derived.Test.YtbednfacipphhaaDoorMacMask
namespace Go.Proofs.YtbednfacipphhaaDoor
open Go.RowKit
set_option linter.unusedVariables false

set_option maxRecDepth 100000 in
theorem st_eq (t : St) (w : World) : (Op.equalIn 10000 103 (.agg t.cells) (.agg t.cells)).run Tryd.prog w = .ok true w := by
  obtain ⟨i0, hi, hz0, hz1, hz2⟩ := info_parts Tryd.info32
  rw [show (10000 : Nat) = 9998 + 1 + 1 from rfl, run_equalIn_array w (9998 + 1) _ _ Tryd.underlying103 hi, show Tryd.prog.cellsOf 102 = 1 by kernel_rfl]
  refine eq_self 102 .u32 Tryd.underlying102 (by kernel_rfl) 9998 _ w _ (fun i hi => ?_)
  have hi8 : i < 8 := by simpa using hi
  rw [St.cells_list, List.getElem?_toArray]
  exact ⟨_, uv_getD t.list i hi8⟩
end Go.Proofs.YtbednfacipphhaaDoor
namespace Go.Proofs.YtbednfacipphhaaDoor
open Go.RowKit
set_option linter.unusedVariables false

set_option maxRecDepth 100000 in
theorem flat_len {L : List (List Int)} (h : Dgl L) : L.flatten.length = L.length * 32 := by
  induction L with
  | nil => rfl
  | cons d r ih =>
    have h1 := (h d (by simp)).1
    have h2 := ih (fun c hc => h c (by simp [hc]))
    simp only [List.flatten_cons, List.length_append, List.length_cons]
    omega
set_option maxRecDepth 100000 in
theorem flat_get {L : List (List Int)} (h : Dgl L) : ∀ j, j < 32 * L.length → L.flatten[j]? = (L.getD (j / 32) [])[j % 32]? := by
  induction L with
  | nil => intro j hj; simp at hj
  | cons d r ih =>
    intro j hj
    have h1 := (h d (by simp)).1
    rw [List.flatten_cons]
    by_cases hlt : j < 32
    · rw [List.getElem?_append_left (by omega), Nat.div_eq_of_lt hlt, Nat.mod_eq_of_lt hlt]; rfl
    · rw [List.getElem?_append_right (by omega), h1, ih (fun c hc => h c (by simp [hc])) (j - 32) (by rw [List.length_cons] at hj; omega), show (j - 32) / 32 = j / 32 - 1 from by omega, show (j - 32) % 32 = j % 32 from by omega]
      obtain ⟨q, hq⟩ : ∃ q, j / 32 = q + 1 := ⟨j / 32 - 1, by omega⟩
      rw [hq]; rfl
set_option maxRecDepth 100000 in
theorem Dgs.cells {w : World} {ad : Addr} {len cap : Nat} {L : List (List Int)} (h : Dgs w (some ad) len cap L) : ∀ j u, (bv L.flatten)[j]? = some u → w.cell? (ad.add j) = some u := by
  intro j u hj
  have hl := h.len_eq
  have hjl : j < 32 * L.length := by
    have := (List.getElem?_eq_some_iff.1 hj).1
    rw [bv_length, flat_len h.dig] at this; omega
  obtain ⟨b, off, e, _, hc⟩ := h.spot (by omega)
  cases e
  rw [Addr.add_lit]
  have h1 := hc (j / 32) (by omega) (j % 32) u (by
    unfold bv at hj ⊢
    rw [List.getElem?_map, flat_get h.dig j hjl] at hj
    rw [List.getElem?_map]; exact hj)
  rw [show off + 32 * (j / 32) + j % 32 = off + j from by omega] at h1
  exact h1
set_option maxRecDepth 100000 in
/-- what is owned reads as the digests -/
theorem Dgs.of_owns {w : World} {base n : Nat} {v : Value} {L : List (List Int)} (h : w.ownsRow base 30 32 v n (bv L.flatten)) (hL : Dgl L) :
    ∃ ao cap, v = .slice ao n cap ∧ Dgs w ao n cap L := by
  have hlen : L.length = n := by have := h.1; rw [bv_length, flat_len hL] at this; omega
  rcases h.2 with ⟨rfl, hn⟩ | ⟨g, cap, cur, rfl, hb, hg, hnc, hcm, hcs, ht⟩
  · subst hn
    exact ⟨_, 0, rfl, hlen, hL, Nat.le_refl _, Nat.zero_le _, fun _ => rfl, fun hp => absurd hp (Nat.lt_irrefl _)⟩
  · refine ⟨some ⟨g, 0, _⟩, cap, rfl, hlen, hL, hnc, hcm, (fun hh => by cases hh), fun _ => ⟨g, 0, rfl, (Array.getElem?_eq_some_iff.1 hg).1, fun i hi j v hj => ?_⟩⟩
    have hd := (hL.getD i (by omega)).1
    have hj32 : j < 32 := by have := (List.getElem?_eq_some_iff.1 hj).1; rw [bv_length, hd] at this; exact this
    rw [Nat.zero_add, h.cellAt (32 * i + j) (by omega)]
    unfold bv at hj ⊢
    rw [List.getElem?_map, flat_get hL (32 * i + j) (by omega), show (32 * i + j) / 32 = i from by omega, show (32 * i + j) % 32 = j from by omega, ← List.getElem?_map]
    exact hj
set_option maxRecDepth 100000 in
theorem flat_app (L M : List (List Int)) : bv (L ++ M).flatten = bv L.flatten ++ bv M.flatten := by rw [List.flatten_append, bv_append]
set_option maxRecDepth 100000 in
/-- digests of whatever make behind an own row -/
theorem wp_append_dgs {o : Oper} {a : Act} {w : World} {K : Act → World → Prop} {Q : Exit → Act → World → Prop} (s x : Operand)
    (ho : o.op = .call { callee := .builtin .append, args := #[s, x], argTypes := #[60, 60] })
    (base n : Nat) (v : Value) (L : List (List Int)) (hs : a.eval s = v) (hown : w.ownsRow base 30 32 v n (bv L.flatten))
    (ao : Option Addr) (m c : Nat) (M : List (List Int)) (hx : a.eval x = .slice ao m c) (hb : Dgs w ao m c M) (h63 : n + m ≤ 1099511627776) (hbase : base ≤ w.heap.size)
    (h : ∀ v' w', w'.ownsRow base 30 32 v' (n + m) (bv (L ++ M).flatten) → Below base w w' → w.grownBy w' v.ownBlock → K (a.put o.dst v') w') : o.wp Tryd.prog a w K Q := by
  obtain ⟨i0, hi, hz0, hz1, hz2⟩ := info_parts dgs_info
  have hu : Tryd.prog.underlying 60 = some (.slice 30) := Tryd.underlying60
  cases ao with
  | none =>
    have h0 := hb.nil rfl
    have h1 := hb.le_cap
    obtain rfl : c = 0 := h0
    obtain rfl : m = 0 := by omega
    obtain rfl : M = [] := List.eq_nil_of_length_eq_zero hb.len_eq
    have hrun := run_append_owned_none (P := Tryd.prog) (w := w) base 60 o.type 30 i0 32 hu hi v n (bv L.flatten) hown
    unfold Oper.wp
    simp [execOp, ho, resolve, invoke, builtin, hs, hx, hrun, Result.andThen]
    exact h _ _ (by rw [List.append_nil]; exact hown) (Below.refl _ _) ⟨rfl, rfl, rfl, Nat.le_refl _, fun _ _ _ => rfl⟩
  | some ad =>
    have hl := hb.len_eq
    refine wp_append_own w s x 60 ho base 30 i0 (.agg #[.int .u8 0, .int .u8 0, .int .u8 0, .int .u8 0, .int .u8 0, .int .u8 0, .int .u8 0, .int .u8 0, .int .u8 0, .int .u8 0, .int .u8 0, .int .u8 0, .int .u8 0, .int .u8 0, .int .u8 0, .int .u8 0, .int .u8 0, .int .u8 0, .int .u8 0, .int .u8 0, .int .u8 0, .int .u8 0, .int .u8 0, .int .u8 0, .int .u8 0, .int .u8 0, .int .u8 0, .int .u8 0, .int .u8 0, .int .u8 0, .int .u8 0, .int .u8 0]) 32 32 hu hi hz0 hz1 hz2 rfl (by decide) v n (bv L.flatten) hs hown ad m c (bv M.flatten) hx (by rw [bv_length, flat_len hb.dig]; omega) hb.cells (bv_one _) (by unfold maxLen; omega) (by omega) hbase ?_
    intro v' w' ho' hg _
    exact h v' w' (by rw [flat_app]; exact ho') ((Below.refl _ _).grown hg hbase (fun k hk => (hown.lt k hk).1)) hg
set_option maxRecDepth 100000 in
theorem wpList_append_dgs {ops : Array Oper} {rest : List Oper} {o : Oper} {a : Act} {w : World} {Q : Exit → Act → World → Prop} (hgd : o.guard = none) (s x : Operand)
    (ho : o.op = .call { callee := .builtin .append, args := #[s, x], argTypes := #[60, 60] })
    (base n : Nat) (v : Value) (L : List (List Int)) (hs : a.eval s = v) (hown : w.ownsRow base 30 32 v n (bv L.flatten))
    (ao : Option Addr) (m c : Nat) (M : List (List Int)) (hx : a.eval x = .slice ao m c) (hb : Dgs w ao m c M) (h63 : n + m ≤ 1099511627776) (hbase : base ≤ w.heap.size)
    (h : ∀ v' w', w'.ownsRow base 30 32 v' (n + m) (bv (L ++ M).flatten) → Below base w w' → w.grownBy w' v.ownBlock → wpList Tryd.prog ops Q rest (a.put o.dst v') w') : wpList Tryd.prog ops Q (o :: rest) a w :=
  wpList_plain hgd fun K hK => wp_append_dgs s x ho base n v L hs hown ao m c M hx hb h63 hbase (fun v' w' h1 h2 h3 => hK _ _ (h v' w' h1 h2 h3))
set_option maxRecDepth 100000 in
theorem step_append_dgs {ops : Array Oper} {o : Oper} {a : Act} {w : World} {K : Act → World → Prop} {Q : Exit → Act → World → Prop} {E : Prop} (hgd : o.guard = none) (s x : Operand)
    (ho : o.op = .call { callee := .builtin .append, args := #[s, x], argTypes := #[60, 60] })
    (base n : Nat) (v : Value) (L : List (List Int)) (hs : a.eval s = v) (hown : w.ownsRow base 30 32 v n (bv L.flatten))
    (ao : Option Addr) (m c : Nat) (M : List (List Int)) (hx : a.eval x = .slice ao m c) (hb : Dgs w ao m c M) (h63 : n + m ≤ 1099511627776) (hbase : base ≤ w.heap.size)
    (h : ∀ v' w', w'.ownsRow base 30 32 v' (n + m) (bv (L ++ M).flatten) → Below base w w' → w.grownBy w' v.ownBlock → K (a.put o.dst v') w') :
    if Region.wanted o (yielded ops a.tmps) = true then Oper.wp Tryd.prog o a w K Q else E := by
  have hw : Region.wanted o (yielded ops a.tmps) = true := by simp [Region.wanted, hgd]
  rw [if_pos hw]
  exact wp_append_dgs s x ho base n v L hs hown ao m c M hx hb h63 hbase h

set_option maxRecDepth 100000 in
set_option maxHeartbeats 1000000 in
theorem dsame_yes (a b : Option Addr) (n c d : Nat) (L : List (List Int)) (w : World) (ha : Dgs w a n c L) (hb : Dgs w b n d L) :
    Calls Tryd.prog 44 #[.slice a n c, .slice b n d] w fun e w' => e = .returned (.bool true) ∧ ∃ q, w' = w.drewN q := by
  have hc1 := ha.le_cap
  have hc2 := ha.cap_le
  have hl := ha.len_eq
  unfold maxLen at hc2
  have hq : ((n : Int) != (n : Int)) = false := by simp
  go_enter Tryd.func44, Tryd.ntmps44
  go_wp2
  go_loopw [5] (fun i wr => ∃ k q : Nat, k ≤ n ∧ i = .int .i64 k ∧ wr = w.drewN q) (fun i _ => n - (intOf i).toNat)
  case atStart => exact ⟨0, 0, Nat.zero_le _, rfl, rfl⟩
  case round =>
    obtain ⟨k, q, hk, rfl, hwr⟩ := hrel
    have HW : Hid (wr = w.drewN q) := hwr
    by_cases hlt : k < n
    · have ha1 : Dgs wr a n c L := by rw [hwr]; exact ha.drewN q
      have hb1 : Dgs wr b n d L := by rw [hwr]; exact hb.drewN q
      clear hwr
      obtain ⟨b1, o1, rfl, _, h1⟩ := ha1.spot (by omega)
      obtain ⟨b2, o2, rfl, _, h2⟩ := hb1.spot (by omega)
      have hD := ha.dig.getD k (by omega)
      have r1 := h1 k hlt
      have r2 := h2 k hlt
      have hi := dig_eq (L.getD k []) hD.1
      have hdi : (Tryd.prog.info? 30).map (·.size) = some (bv (L.getD k [])).length := by rw [bv_length, hD.1]; exact dig_info
      generalize L.getD k [] = D at r1 r2 hi hdi hD
      have hki : (k : Int) < (n : Int) := by omega
      clear h1 h2 ha1 hb1
      have hk : wr.drew.rangeAt b1 (o1 + k * 32) (bv D) ∧ wr.drew.rangeAt b2 (o2 + k * 32) (bv D) := by
        rw [Nat.mul_comm k 32]; exact ⟨r1, r2⟩
      have HQ : Hid (wr.drew = w.drewN (q + 1)) := by show _ = _; rw [HW.out]; rfl
      clear r1 r2 HW
      go_wp2_with fail
      refine wp_region_held_drew (S := fun W => W.rangeAt b1 (o1 + k * 32) (bv D) ∧ W.rangeAt b2 (o2 + k * 32) (bv D)) (by kernel_rfl) hk (fun _ => ?_)
      refine wpAnyH_take (i := 0) (oi := { dst := some 17, op := Op.move (Operand.tmp 0), type := 60, pos := "ref.go:180", after := #[], guard := none }) (v := ?vsame1) rfl (by kernel_rfl) (by kernel_rfl) (by kernel_rfl) (fun _ _ _ h => h) (Or.inl ⟨by rfl, ?ysame1⟩) hk ?rsame1
      case ysame1 => (intro w hSw; (try dsimp only at hSw); go_simp; first | done | with_reducible rfl)
      simp only [Act.put, List.setIfInBounds_toArray, List.set_cons_zero, List.set_cons_succ]
      refine wpAnyH_take (i := 1) (oi := { dst := some 18, op := Op.move (Operand.tmp 5), type := 3, pos := "ref.go:180", after := #[], guard := none }) (v := ?vsame2) rfl (by kernel_rfl) (by kernel_rfl) (by kernel_rfl) (fun _ _ _ h => h) (Or.inl ⟨by rfl, ?ysame2⟩) hk ?rsame2
      case ysame2 => (intro w hSw; (try dsimp only at hSw); go_simp; first | done | with_reducible rfl)
      simp only [Act.put, List.setIfInBounds_toArray, List.set_cons_zero, List.set_cons_succ]
      refine wpAnyH_take (i := 2) (oi := { dst := some 19, op := Op.indexAddr 60 (Operand.tmp 17) (Operand.tmp 18), type := 0, pos := "ref.go:180", after := #[{ on := 0, ground := Ground.data }, { on := 1, ground := Ground.data }], guard := none }) (v := ?vsame3) rfl (by kernel_rfl) (by kernel_rfl) (by kernel_rfl) (fun _ _ _ h => h) (Or.inl ⟨by rfl, ?ysame3⟩) hk ?rsame3
      case ysame3 => (intro w hSw; (try dsimp only at hSw); go_simp; first | done | with_reducible rfl)
      simp only [Act.put, List.setIfInBounds_toArray, List.set_cons_zero, List.set_cons_succ]
      refine wpAnyH_take (i := 3) (oi := { dst := some 20, op := Op.load 30 (Operand.tmp 19), type := 30, pos := "ref.go:180", after := #[{ on := 2, ground := Ground.data }], guard := none }) (v := .agg (bv D).toArray) rfl (by kernel_rfl) (by kernel_rfl) (by kernel_rfl) (fun _ _ _ h => h) (yieldsIf_load_mid (by rfl) 30 (.tmp 19) rfl b1 (o1 + k * 32) rfl (bv D) _ (fun w h => h.1) Tryd.underlying30 rfl hdi) hk ?_
      simp only [Act.put, List.setIfInBounds_toArray, List.set_cons_zero, List.set_cons_succ]
      refine wpAnyH_take (i := 4) (oi := { dst := some 21, op := Op.move (Operand.tmp 1), type := 60, pos := "ref.go:180", after := #[], guard := none }) (v := ?vsame4) rfl (by kernel_rfl) (by kernel_rfl) (by kernel_rfl) (fun _ _ _ h => h) (Or.inl ⟨by rfl, ?ysame4⟩) hk ?rsame4
      case ysame4 => (intro w hSw; (try dsimp only at hSw); go_simp; first | done | with_reducible rfl)
      simp only [Act.put, List.setIfInBounds_toArray, List.set_cons_zero, List.set_cons_succ]
      refine wpAnyH_take (i := 5) (oi := { dst := some 22, op := Op.move (Operand.tmp 5), type := 3, pos := "ref.go:180", after := #[], guard := none }) (v := ?vsame5) rfl (by kernel_rfl) (by kernel_rfl) (by kernel_rfl) (fun _ _ _ h => h) (Or.inl ⟨by rfl, ?ysame5⟩) hk ?rsame5
      case ysame5 => (intro w hSw; (try dsimp only at hSw); go_simp; first | done | with_reducible rfl)
      simp only [Act.put, List.setIfInBounds_toArray, List.set_cons_zero, List.set_cons_succ]
      refine wpAnyH_take (i := 6) (oi := { dst := some 23, op := Op.indexAddr 60 (Operand.tmp 21) (Operand.tmp 22), type := 0, pos := "ref.go:180", after := #[{ on := 4, ground := Ground.data }, { on := 5, ground := Ground.data }], guard := none }) (v := ?vsame6) rfl (by kernel_rfl) (by kernel_rfl) (by kernel_rfl) (fun _ _ _ h => h) (Or.inl ⟨by rfl, ?ysame6⟩) hk ?rsame6
      case ysame6 => (intro w hSw; (try dsimp only at hSw); go_simp; first | done | with_reducible rfl)
      simp only [Act.put, List.setIfInBounds_toArray, List.set_cons_zero, List.set_cons_succ]
      refine wpAnyH_take (i := 7) (oi := { dst := some 24, op := Op.load 30 (Operand.tmp 23), type := 30, pos := "ref.go:180", after := #[{ on := 6, ground := Ground.data }], guard := none }) (v := .agg (bv D).toArray) rfl (by kernel_rfl) (by kernel_rfl) (by kernel_rfl) (fun _ _ _ h => h) (yieldsIf_load_mid (by rfl) 30 (.tmp 23) rfl b2 (o2 + k * 32) rfl (bv D) _ (fun w h => h.2) Tryd.underlying30 rfl hdi) hk ?_
      simp only [Act.put, List.setIfInBounds_toArray, List.set_cons_zero, List.set_cons_succ]
      refine wpAnyH_take (i := 8) (oi := { dst := some 25, op := Op.binOp BinOp.neq 30 (Operand.tmp 20) (Operand.tmp 24) 30, type := 4, pos := "ref.go:180", after := #[{ on := 3, ground := Ground.data }, { on := 7, ground := Ground.data }], guard := none }) (v := ?vsame7) rfl (by kernel_rfl) (by kernel_rfl) (by kernel_rfl) (fun _ _ _ h => h) (Or.inl ⟨by rfl, ?ysame7⟩) hk ?rsame7
      case ysame7 => (intro w hSw; (try dsimp only at hSw); go_simp; first | done | with_reducible rfl)
      simp only [Act.put, List.setIfInBounds_toArray, List.set_cons_zero, List.set_cons_succ]
      refine wpAnyH_done (by decide +kernel) ?_ _
      clear hk
      go_wp2
      go_roundw
      case rel => exact ⟨k + 1, q + 1, by omega, by go_num, HQ.out⟩
      case measure => simp [intOf]; omega
    · clear hwr
      go_wp2
      go_ret
      exact ⟨rfl, q, HW.out⟩
end Go.Proofs.YtbednfacipphhaaDoor
namespace Go.Proofs.YtbednfacipphhaaDoor
open Go.RowKit
set_option linter.unusedVariables false

set_option maxRecDepth 100000 in
theorem apart_of {w : World} {a : Option Addr} {len cap g : Nat} {l : List Int} (h : Bts w a len cap l) (hg : w.heap.size ≤ g) : 0 < len → ∀ p, a = some p → p.block ≠ g := by
  intro hz p hp
  obtain ⟨sb, so, e, hlt, _⟩ := h.spot hz
  rw [e] at hp; cases hp
  show sb ≠ g; omega

set_option maxRecDepth 100000 in
set_option maxHeartbeats 1000000 in
theorem behind_any (b t : List Int) (a : Option Addr) (len cap : Nat) (w : World) (hb : Byt b) (hl : b.length = 64) (ht : Bts w a len cap t) (htab : Tab w) (hbd : len ≤ 1152921504606846976) :
    Calls Tryd.prog 77 #[.agg (bv b).toArray, .slice a len cap] w fun e w' => e = .returned (.agg (bv (sumL (b ++ t))).toArray) ∧ Below w.heap.size w w' := by
  have hlen := ht.len_eq
  have HZ2 : Bx ((bv (sumL (b ++ t))).toArray.size = 32) := ⟨by rw [List.size_toArray, bv_length, sumL_length]⟩
  have HO2 : Bx ((bv (sumL (b ++ t))).toArray.all (·.oneCell') = true) := ⟨all_oneCell_toArray (bv_one _)⟩
  have HL : Hid (b.length = 64) := hl
  go_enter Tryd.func77, Tryd.ntmps77
  go_wp2_with fail
  have hb0 : Below w.heap.size w ((w.alloc (.cells (bv b).toArray 105)).alloc (.cells #[.int .u8 0, .int .u8 0, .int .u8 0, .int .u8 0, .int .u8 0, .int .u8 0, .int .u8 0, .int .u8 0, .int .u8 0, .int .u8 0, .int .u8 0, .int .u8 0, .int .u8 0, .int .u8 0, .int .u8 0, .int .u8 0, .int .u8 0, .int .u8 0, .int .u8 0, .int .u8 0, .int .u8 0, .int .u8 0, .int .u8 0, .int .u8 0, .int .u8 0, .int .u8 0, .int .u8 0, .int .u8 0, .int .u8 0, .int .u8 0, .int .u8 0, .int .u8 0] 30)) := ((Below.refl _ _).alloc (Nat.le_refl _) _).alloc (by simp) _
  obtain ⟨cs, hcs, hres0⟩ : ∃ cs : Array Value, cs.size = 32 ∧ ((w.alloc (.cells (bv b).toArray 105)).alloc (.cells #[.int .u8 0, .int .u8 0, .int .u8 0, .int .u8 0, .int .u8 0, .int .u8 0, .int .u8 0, .int .u8 0, .int .u8 0, .int .u8 0, .int .u8 0, .int .u8 0, .int .u8 0, .int .u8 0, .int .u8 0, .int .u8 0, .int .u8 0, .int .u8 0, .int .u8 0, .int .u8 0, .int .u8 0, .int .u8 0, .int .u8 0, .int .u8 0, .int .u8 0, .int .u8 0, .int .u8 0, .int .u8 0, .int .u8 0, .int .u8 0, .int .u8 0, .int .u8 0] 30)).heap[w.heap.size + 1]? = some (.cells cs 30 (0, 0)) :=
    ⟨#[.int .u8 0, .int .u8 0, .int .u8 0, .int .u8 0, .int .u8 0, .int .u8 0, .int .u8 0, .int .u8 0, .int .u8 0, .int .u8 0, .int .u8 0, .int .u8 0, .int .u8 0, .int .u8 0, .int .u8 0, .int .u8 0, .int .u8 0, .int .u8 0, .int .u8 0, .int .u8 0, .int .u8 0, .int .u8 0, .int .u8 0, .int .u8 0, .int .u8 0, .int .u8 0, .int .u8 0, .int .u8 0, .int .u8 0, .int .u8 0, .int .u8 0, .int .u8 0], rfl, by rw [show w.heap.size + 1 = (w.alloc (.cells (bv b).toArray 105)).heap.size from by simp, heap_alloc_new]⟩
  have hrow0 : ((w.alloc (.cells (bv b).toArray 105)).alloc (.cells #[.int .u8 0, .int .u8 0, .int .u8 0, .int .u8 0, .int .u8 0, .int .u8 0, .int .u8 0, .int .u8 0, .int .u8 0, .int .u8 0, .int .u8 0, .int .u8 0, .int .u8 0, .int .u8 0, .int .u8 0, .int .u8 0, .int .u8 0, .int .u8 0, .int .u8 0, .int .u8 0, .int .u8 0, .int .u8 0, .int .u8 0, .int .u8 0, .int .u8 0, .int .u8 0, .int .u8 0, .int .u8 0, .int .u8 0, .int .u8 0, .int .u8 0, .int .u8 0] 30)).heap[w.heap.size]? = some (.cells (bv b).toArray 105 (0, 0)) := by rw [heap_alloc_old _ _ (by simp), heap_alloc_new]
  have hs0 : ((w.alloc (.cells (bv b).toArray 105)).alloc (.cells #[.int .u8 0, .int .u8 0, .int .u8 0, .int .u8 0, .int .u8 0, .int .u8 0, .int .u8 0, .int .u8 0, .int .u8 0, .int .u8 0, .int .u8 0, .int .u8 0, .int .u8 0, .int .u8 0, .int .u8 0, .int .u8 0, .int .u8 0, .int .u8 0, .int .u8 0, .int .u8 0, .int .u8 0, .int .u8 0, .int .u8 0, .int .u8 0, .int .u8 0, .int .u8 0, .int .u8 0, .int .u8 0, .int .u8 0, .int .u8 0, .int .u8 0, .int .u8 0] 30)).heap.size = w.heap.size + 1 + 1 := by simp
  generalize (w.alloc (.cells (bv b).toArray 105)).alloc (.cells #[.int .u8 0, .int .u8 0, .int .u8 0, .int .u8 0, .int .u8 0, .int .u8 0, .int .u8 0, .int .u8 0, .int .u8 0, .int .u8 0, .int .u8 0, .int .u8 0, .int .u8 0, .int .u8 0, .int .u8 0, .int .u8 0, .int .u8 0, .int .u8 0, .int .u8 0, .int .u8 0, .int .u8 0, .int .u8 0, .int .u8 0, .int .u8 0, .int .u8 0, .int .u8 0, .int .u8 0, .int .u8 0, .int .u8 0, .int .u8 0, .int .u8 0, .int .u8 0] 30) = w0 at hb0 hres0 hrow0 hs0 ⊢
  refine (new_any _).mono ?_
  rintro e w1 ⟨g, rfl, hash1, hg1, hb1⟩
  have hlow1 := hb0.trans (hb1.mono (by omega))
  have hres1 := (hb1.block (w.heap.size + 1) (by omega)).trans hres0
  have hrow1 := (hb1.block w.heap.size (by omega)).trans hrow0
  have hm1 := ht.below hlow1
  have ht1 := htab.below hlow1
  have hap := apart_of ht (g := g) (by omega)
  have hbk : Bts w1 (some ⟨w.heap.size, 0, none⟩) 64 64 b := bts_cells hrow1 hb hl (by unfold maxLen; omega)
  have hsl := one_slice w.heap.size
  clear hb1 hres0 hrow0 hrow1
  go_wp2_with fail
  refine (add_any g [] b _ 64 64 _ hash1 hbk (fun _ p hp => by cases hp; show w.heap.size ≠ g; omega) (by have := htab.pos; omega) ht1 (by show 0 + 64 ≤ _; omega)).mono ?_
  rintro e w2 ⟨rfl, hash2, hbut2⟩
  rw [List.nil_append] at hash2
  have hsz1 := hlow1.size
  have hlow2 := hlow1.trans (hbut2.low (B := w.heap.size) (by omega) hlow1.size)
  have hres2 := (hbut2.block (w.heap.size + 1) (Array.getElem?_eq_some_iff.1 hres1).1 (by omega)).trans hres1
  have ht2 := htab.below hlow2
  have hm2 := hm1.but hbut2 hap
  clear hash1 hm1 hlow1 hres1 ht1 hbut2 hbk hsl
  go_wp2_with fail
  refine (add_any g b t a len cap _ hash2 hm2 hap (by have := htab.pos; omega) ht2 (by omega)).mono ?_
  rintro e w3 ⟨rfl, hash3, hbut3⟩
  have hlow3 := hlow2.trans (hbut3.low (B := w.heap.size) (by omega) hlow2.size)
  have hres3 := (hbut3.block (w.heap.size + 1) (Array.getElem?_eq_some_iff.1 hres2).1 (by omega)).trans hres2
  have ht3 := htab.below hlow3
  clear hash2 hm2 hlow2 hres2 ht2 hbut3
  go_wp2_with fail
  refine (hsum_any g (b ++ t) _ hash3 ht3 (by rw [List.length_append]; omega)).mono ?_
  rintro e w4 ⟨rfl, hb4⟩
  have hlow4 := hlow3.trans (hb4.mono hlow3.size)
  have hres4 := (hb4.block (w.heap.size + 1) (Array.getElem?_eq_some_iff.1 hres3).1).trans hres3
  clear hash3 hlow3 hres3 ht3 hb4 hap
  have hth := there_row hres4
  rw [hcs] at hth
  generalize hD : (bv (sumL (b ++ t))).toArray = D at HZ2 HO2 ⊢
  have HD : Bx (Ending.returned (.agg D) = .returned (.agg (bv (sumL (b ++ t))).toArray)) := ⟨by rw [hD]⟩
  clear hD
  have HI2 : Bx ((Tryd.prog.info? 30).map (·.size) = some D.size) := ⟨by rw [HZ2.out]; exact dig_info⟩
  have HST : Bx ((w4.setCells (w.heap.size + 1) 0 D.toList).heap[w.heap.size + 1]? = some (.cells D 30 (0, 0))) := ⟨heap_stored (vs := D) hres4 (by rw [hcs, HZ2.out])⟩
  have HBS : Bx (Below w.heap.size w (w4.setCells (w.heap.size + 1) 0 D.toList)) := ⟨below_setCells hlow4 (w.heap.size + 1) (by omega) D.toList 0⟩
  have HTH : Bx (w4.there (w.heap.size + 1) 0 D.size) := ⟨by rw [HZ2.out]; exact hth⟩
  clear hres4 hth hlow4 hcs
  go_wp2_with (refine wpList_store_mid rfl 30 (.tmp 4) (.tmp 14) rfl (w.heap.size + 1) 0 D rfl rfl HTH.out HI2.out HO2.out ?_)
  exact bodyPost_ret (v := .agg D) (results_cell_row rfl _ _ (w.heap.size + 1) 30 D (0, 0) _ rfl HST.out Tryd.underlying30 rfl HI2.out) rfl ⟨HD.out, HBS.out⟩

set_option maxRecDepth 100000 in
theorem blk_var (w : World) (l : List Int) (hl : l.length = 64) (D : Array Value) (hD : D = (bv l).toArray) : Bx (Below w.heap.size w ((w.alloc (.cells #[.int .u8 0, .int .u8 0, .int .u8 0, .int .u8 0, .int .u8 0, .int .u8 0, .int .u8 0, .int .u8 0, .int .u8 0, .int .u8 0, .int .u8 0, .int .u8 0, .int .u8 0, .int .u8 0, .int .u8 0, .int .u8 0, .int .u8 0, .int .u8 0, .int .u8 0, .int .u8 0, .int .u8 0, .int .u8 0, .int .u8 0, .int .u8 0, .int .u8 0, .int .u8 0, .int .u8 0, .int .u8 0, .int .u8 0, .int .u8 0, .int .u8 0, .int .u8 0, .int .u8 0, .int .u8 0, .int .u8 0, .int .u8 0, .int .u8 0, .int .u8 0, .int .u8 0, .int .u8 0, .int .u8 0, .int .u8 0, .int .u8 0, .int .u8 0, .int .u8 0, .int .u8 0, .int .u8 0, .int .u8 0, .int .u8 0, .int .u8 0, .int .u8 0, .int .u8 0, .int .u8 0, .int .u8 0, .int .u8 0, .int .u8 0, .int .u8 0, .int .u8 0, .int .u8 0, .int .u8 0, .int .u8 0, .int .u8 0, .int .u8 0, .int .u8 0] 105)).setCells w.heap.size 0 D.toList)) ∧ Bx (((w.alloc (.cells #[.int .u8 0, .int .u8 0, .int .u8 0, .int .u8 0, .int .u8 0, .int .u8 0, .int .u8 0, .int .u8 0, .int .u8 0, .int .u8 0, .int .u8 0, .int .u8 0, .int .u8 0, .int .u8 0, .int .u8 0, .int .u8 0, .int .u8 0, .int .u8 0, .int .u8 0, .int .u8 0, .int .u8 0, .int .u8 0, .int .u8 0, .int .u8 0, .int .u8 0, .int .u8 0, .int .u8 0, .int .u8 0, .int .u8 0, .int .u8 0, .int .u8 0, .int .u8 0, .int .u8 0, .int .u8 0, .int .u8 0, .int .u8 0, .int .u8 0, .int .u8 0, .int .u8 0, .int .u8 0, .int .u8 0, .int .u8 0, .int .u8 0, .int .u8 0, .int .u8 0, .int .u8 0, .int .u8 0, .int .u8 0, .int .u8 0, .int .u8 0, .int .u8 0, .int .u8 0, .int .u8 0, .int .u8 0, .int .u8 0, .int .u8 0, .int .u8 0, .int .u8 0, .int .u8 0, .int .u8 0, .int .u8 0, .int .u8 0, .int .u8 0, .int .u8 0] 105)).setCells w.heap.size 0 D.toList).heap[w.heap.size]? = some (.cells D 105 (0, 0))) ∧ Bx ((w.alloc (.cells #[.int .u8 0, .int .u8 0, .int .u8 0, .int .u8 0, .int .u8 0, .int .u8 0, .int .u8 0, .int .u8 0, .int .u8 0, .int .u8 0, .int .u8 0, .int .u8 0, .int .u8 0, .int .u8 0, .int .u8 0, .int .u8 0, .int .u8 0, .int .u8 0, .int .u8 0, .int .u8 0, .int .u8 0, .int .u8 0, .int .u8 0, .int .u8 0, .int .u8 0, .int .u8 0, .int .u8 0, .int .u8 0, .int .u8 0, .int .u8 0, .int .u8 0, .int .u8 0, .int .u8 0, .int .u8 0, .int .u8 0, .int .u8 0, .int .u8 0, .int .u8 0, .int .u8 0, .int .u8 0, .int .u8 0, .int .u8 0, .int .u8 0, .int .u8 0, .int .u8 0, .int .u8 0, .int .u8 0, .int .u8 0, .int .u8 0, .int .u8 0, .int .u8 0, .int .u8 0, .int .u8 0, .int .u8 0, .int .u8 0, .int .u8 0, .int .u8 0, .int .u8 0, .int .u8 0, .int .u8 0, .int .u8 0, .int .u8 0, .int .u8 0, .int .u8 0] 105)).there w.heap.size 0 D.size) ∧ Bx ((Tryd.prog.info? 105).map (·.size) = some D.size) ∧ Bx (D.all (·.oneCell') = true) := by
  have hs : D.size = 64 := by rw [hD, List.size_toArray, bv_length, hl]
  refine ⟨⟨below_setCells ((Below.refl _ _).alloc (Nat.le_refl _) _) _ (Nat.le_refl _) _ _⟩, ⟨?_⟩, ⟨by rw [hs]; exact there_new _ _ _⟩, ⟨by rw [hs]; exact in_info⟩, ⟨by rw [hD]; exact all_oneCell_toArray (bv_one _)⟩⟩
  exact heap_stored (vs := D) (heap_alloc_new _ _) (by rw [hs]; rfl)
/-- what stays while Sum goes on: the answer's place, the key's block, the inner sum -/
structure MS (R P Q : Nat) (b d : List Int) (w wr : World) : Prop where
  low : Below R w wr
  res : ∃ cs : Array Value, cs.size = 32 ∧ wr.heap[R]? = some (.cells cs 30 (0, 0))
  blk : wr.heap[P]? = some (.cells (bv b).toArray 105 (0, 0))
  inn : wr.heap[Q]? = some (.cells (bv d).toArray 30 (0, 0))
  tab : Tab wr
  rp : R < P
  pq : P < Q
set_option maxRecDepth 100000 in
theorem MS.lt {R P Q : Nat} {b d : List Int} {w wr : World} (h : MS R P Q b d w wr) : Q < wr.heap.size := (Array.getElem?_eq_some_iff.1 h.inn).1
set_option maxRecDepth 100000 in
theorem MS.drewN {R P Q : Nat} {b d : List Int} {w wr : World} (h : MS R P Q b d w wr) (n : Nat) : MS R P Q b d w (wr.drewN n) := ⟨below_drewN h.low n, h.res, h.blk, h.inn, h.tab.drewN n, h.rp, h.pq⟩
set_option maxRecDepth 100000 in
theorem MS.step {R P Q : Nat} {b d : List Int} {w wr w1 : World} (h : MS R P Q b d w wr) (hb : Below wr.heap.size wr w1) : MS R P Q b d w w1 := by
  have h1 := h.rp; have h2 := h.pq; have h3 := h.lt
  exact ⟨h.low.trans (hb.mono (by omega)), by obtain ⟨cs, e1, e2⟩ := h.res; exact ⟨cs, e1, by rw [hb.block _ (by omega)]; exact e2⟩, by rw [hb.block _ (by omega)]; exact h.blk, by rw [hb.block _ (by omega)]; exact h.inn, h.tab.below hb, h1, h2⟩
/-- what the region's walk holds: the block's cells, the answer's place, all of it -/
def MH (R P Q : Nat) (b d : List Int) (w wr : World) : Prop := wr.rangeAt P 0 (bv b) ∧ wr.there R 0 32 ∧ MS R P Q b d w wr
set_option maxRecDepth 100000 in
theorem MS.held {R P Q : Nat} {b d : List Int} {w wr : World} (h : MS R P Q b d w wr) : wr.rangeAt P 0 (bv b) ∧ wr.there R 0 32 ∧ MS R P Q b d w wr := by
  obtain ⟨cs, e1, e2⟩ := h.res
  have := there_row e2
  rw [e1] at this
  exact ⟨range_row h.blk, this, h⟩
set_option maxRecDepth 100000 in
theorem ms_step {R P Q : Nat} {b d : List Int} {w wr w1 : World} {p q : Prop} (h : p ∧ q ∧ MS R P Q b d w wr) (hb : Below wr.heap.size wr w1) : w1.rangeAt P 0 (bv b) ∧ w1.there R 0 32 ∧ MS R P Q b d w w1 := (h.2.2.step hb).held
set_option maxRecDepth 100000 in
theorem ms_tab {R P Q : Nat} {b d : List Int} {w wr : World} {p q : Prop} (h : p ∧ q ∧ MS R P Q b d w wr) : Tab wr := h.2.2.tab
set_option maxRecDepth 100000 in
theorem ms_bts {R P Q : Nat} {b d : List Int} {w wr : World} {p q : Prop} (h : p ∧ q ∧ MS R P Q b d w wr) (hd : Byt d) (hl : d.length = 32) : Bts wr (some ⟨Q, 0, none⟩) 32 32 d := bts_cells h.2.2.inn hd hl (by unfold maxLen; omega)
set_option maxRecDepth 100000 in
theorem MS.store {R P Q : Nat} {b d : List Int} {w wr : World} {D : List Value} (h : MS R P Q b d w wr) (hR : 0 < R) (hD : D.length = 32) : MS R P Q b d w (wr.setCells R 0 D) ∧ (wr.setCells R 0 D).heap[R]? = some (.cells D.toArray 30 (0, 0)) := by
  have h1 := h.rp; have h2 := h.pq; have h3 := h.lt
  obtain ⟨cs, e1, e2⟩ := h.res
  have hst : (wr.setCells R 0 D).heap[R]? = some (.cells D.toArray 30 (0, 0)) := heap_stored (vs := D.toArray) e2 (by rw [e1, List.size_toArray, hD])
  have hbut : But R wr (wr.setCells R 0 D) := (But.refl _ _).setCells _ _
  refine ⟨⟨below_setCells h.low R (Nat.le_refl _) _ _, ⟨D.toArray, by rw [List.size_toArray, hD], hst⟩, ?_, ?_, h.tab.but hbut hR, h1, h2⟩, hst⟩
  · rw [hbut.block _ (by omega) (by omega)]; exact h.blk
  · rw [hbut.block _ (by omega) (by omega)]; exact h.inn
set_option maxRecDepth 100000 in
theorem ms_store {R P Q : Nat} {b d : List Int} {w wr : World} {p q : Prop} {D : List Value} (h : p ∧ q ∧ MS R P Q b d w wr) (hR : 0 < R) (hD : D.length = 32) : (wr.setCells R 0 D).rangeAt P 0 (bv b) ∧ (wr.setCells R 0 D).there R 0 32 ∧ MS R P Q b d w (wr.setCells R 0 D) := (h.2.2.store hR hD).1.held

set_option maxRecDepth 100000 in
set_option maxHeartbeats 1000000 in
theorem mac_any (a0 a1 : Option Addr) (n0 n1 c0 c1 : Nat) (k t : List Int) (w : World) (hk : Bts w a0 n0 c0 k) (ht : Bts w a1 n1 c1 t) (htab : Tab w) (hbk : n0 ≤ 1152921504606846976) (hbt : n1 ≤ 1152921504606846976) :
    Calls Tryd.prog 51 #[.slice a0 n0 c0, .slice a1 n1 c1] w fun e w' => e = .returned (.agg (bv (macL k t)).toArray) ∧ Below w.heap.size w w' := by
  have hpos := htab.pos
  go_enter Tryd.func51, Tryd.ntmps51
  go_wp2_with fail
  have hb0 : Below w.heap.size w (w.alloc (.cells #[.int .u8 0, .int .u8 0, .int .u8 0, .int .u8 0, .int .u8 0, .int .u8 0, .int .u8 0, .int .u8 0, .int .u8 0, .int .u8 0, .int .u8 0, .int .u8 0, .int .u8 0, .int .u8 0, .int .u8 0, .int .u8 0, .int .u8 0, .int .u8 0, .int .u8 0, .int .u8 0, .int .u8 0, .int .u8 0, .int .u8 0, .int .u8 0, .int .u8 0, .int .u8 0, .int .u8 0, .int .u8 0, .int .u8 0, .int .u8 0, .int .u8 0, .int .u8 0] 30)) := (Below.refl _ _).alloc (Nat.le_refl _) _
  obtain ⟨cs, hcs, hres0⟩ : ∃ cs : Array Value, cs.size = 32 ∧ (w.alloc (.cells #[.int .u8 0, .int .u8 0, .int .u8 0, .int .u8 0, .int .u8 0, .int .u8 0, .int .u8 0, .int .u8 0, .int .u8 0, .int .u8 0, .int .u8 0, .int .u8 0, .int .u8 0, .int .u8 0, .int .u8 0, .int .u8 0, .int .u8 0, .int .u8 0, .int .u8 0, .int .u8 0, .int .u8 0, .int .u8 0, .int .u8 0, .int .u8 0, .int .u8 0, .int .u8 0, .int .u8 0, .int .u8 0, .int .u8 0, .int .u8 0, .int .u8 0, .int .u8 0] 30)).heap[w.heap.size]? = some (.cells cs 30 (0, 0)) := ⟨#[.int .u8 0, .int .u8 0, .int .u8 0, .int .u8 0, .int .u8 0, .int .u8 0, .int .u8 0, .int .u8 0, .int .u8 0, .int .u8 0, .int .u8 0, .int .u8 0, .int .u8 0, .int .u8 0, .int .u8 0, .int .u8 0, .int .u8 0, .int .u8 0, .int .u8 0, .int .u8 0, .int .u8 0, .int .u8 0, .int .u8 0, .int .u8 0, .int .u8 0, .int .u8 0, .int .u8 0, .int .u8 0, .int .u8 0, .int .u8 0, .int .u8 0, .int .u8 0], rfl, heap_alloc_new _ _⟩
  have hs0 : (w.alloc (.cells #[.int .u8 0, .int .u8 0, .int .u8 0, .int .u8 0, .int .u8 0, .int .u8 0, .int .u8 0, .int .u8 0, .int .u8 0, .int .u8 0, .int .u8 0, .int .u8 0, .int .u8 0, .int .u8 0, .int .u8 0, .int .u8 0, .int .u8 0, .int .u8 0, .int .u8 0, .int .u8 0, .int .u8 0, .int .u8 0, .int .u8 0, .int .u8 0, .int .u8 0, .int .u8 0, .int .u8 0, .int .u8 0, .int .u8 0, .int .u8 0, .int .u8 0, .int .u8 0] 30)).heap.size = w.heap.size + 1 := by simp
  generalize w.alloc (.cells #[.int .u8 0, .int .u8 0, .int .u8 0, .int .u8 0, .int .u8 0, .int .u8 0, .int .u8 0, .int .u8 0, .int .u8 0, .int .u8 0, .int .u8 0, .int .u8 0, .int .u8 0, .int .u8 0, .int .u8 0, .int .u8 0, .int .u8 0, .int .u8 0, .int .u8 0, .int .u8 0, .int .u8 0, .int .u8 0, .int .u8 0, .int .u8 0, .int .u8 0, .int .u8 0, .int .u8 0, .int .u8 0, .int .u8 0, .int .u8 0, .int .u8 0, .int .u8 0] 30) = w0 at hb0 hres0 hs0 ⊢
  have hk0 := hk.below hb0
  have ht0 := ht.below hb0
  have hT0 := htab.below hb0
  refine (blockOf_any a0 n0 c0 k _ hk0 hT0 (by omega)).mono ?_
  rintro e w1 ⟨rfl, hb1⟩
  have hBl := blkK_len k
  have hBb := blkK_byt hk.byt
  have HMAC : Bx (macL k t = sumL (xorB (blkK k) 92 ++ sumL (xorB (blkK k) 54 ++ t))) := ⟨rfl⟩
  generalize blkK k = B at hBl hBb HMAC ⊢
  have hlow1 := hb0.trans (hb1.mono (by omega))
  have hres1 := (hb1.block w.heap.size (by omega)).trans hres0
  have ht1 := ht0.below hb1
  have hT1 := hT0.below hb1
  have hsz1 := hb1.size
  clear hk0 ht0 hT0 hb0 hb1 hres0
  generalize hDD : (bv B).toArray = DB
  obtain ⟨HB2, HRW2, HTH2, HI2, HO2⟩ := blk_var w1 B hBl DB hDD.symm
  have HDB : Bx (DB = (bv B).toArray) := ⟨hDD.symm⟩
  clear hDD
  go_wp2_with (first
    | (
      refine wpList_store_mid rfl 105 (.tmp 5) (.tmp 8) rfl w1.heap.size 0 DB rfl rfl HTH2.out HI2.out HO2.out ?_
      have hb2 := HB2.out
      have hrw2 : Bx _ := ⟨HRW2.out⟩
      generalize (w1.alloc (.cells #[.int .u8 0, .int .u8 0, .int .u8 0, .int .u8 0, .int .u8 0, .int .u8 0, .int .u8 0, .int .u8 0, .int .u8 0, .int .u8 0, .int .u8 0, .int .u8 0, .int .u8 0, .int .u8 0, .int .u8 0, .int .u8 0, .int .u8 0, .int .u8 0, .int .u8 0, .int .u8 0, .int .u8 0, .int .u8 0, .int .u8 0, .int .u8 0, .int .u8 0, .int .u8 0, .int .u8 0, .int .u8 0, .int .u8 0, .int .u8 0, .int .u8 0, .int .u8 0, .int .u8 0, .int .u8 0, .int .u8 0, .int .u8 0, .int .u8 0, .int .u8 0, .int .u8 0, .int .u8 0, .int .u8 0, .int .u8 0, .int .u8 0, .int .u8 0, .int .u8 0, .int .u8 0, .int .u8 0, .int .u8 0, .int .u8 0, .int .u8 0, .int .u8 0, .int .u8 0, .int .u8 0, .int .u8 0, .int .u8 0, .int .u8 0, .int .u8 0, .int .u8 0, .int .u8 0, .int .u8 0, .int .u8 0, .int .u8 0, .int .u8 0, .int .u8 0] 105)).setCells w1.heap.size 0 DB.toList = w2 at hb2 hrw2 ⊢
      clear HB2 HRW2 HTH2)
    | (refine wpList_load_row rfl 105 (.tmp 5) rfl w1.heap.size rfl 105 DB (0, 0) _ hrw2.out Tryd.underlying105 rfl HI2.out ?_))
  have hrw3 := hrw2.out
  rw [HDB.out] at hrw3 ⊢
  clear hrw2 HI2 HO2 HDB DB
  refine (masked_any B 54 _ hBb hBl (by decide)).mono ?_
  rintro e w3 ⟨rfl, hb3⟩
  have hXl : (xorB B 54).length = 64 := by rw [xorB_length, hBl]
  have hXb : Byt (xorB B 54) := xorB_byt hBb (by decide)
  generalize xorB B 54 = X at hXl hXb HMAC ⊢
  have hb13 := bstep hb2 hb3
  have ht3 := ht1.below hb13
  have hT3 := hT1.below hb13
  have hrw4 := (hb3.block _ (Array.getElem?_eq_some_iff.1 hrw3).1).trans hrw3
  clear hb2 hb3 hrw3
  go_wp2_with fail
  refine (behind_any X t a1 n1 c1 _ hXb hXl ht3 hT3 hbt).mono ?_
  rintro e w4 ⟨rfl, hb4⟩
  have hb14 := bstep hb13 hb4
  have hrw5 := (hb4.block _ (Array.getElem?_eq_some_iff.1 hrw4).1).trans hrw4
  have hSl := sumL_length (X ++ t)
  have hSb := sumL_byt (X ++ t)
  generalize sumL (X ++ t) = I at hSl hSb HMAC ⊢
  generalize hDD : (bv I).toArray = DI
  obtain ⟨hdv, hth, hinf, hone⟩ := dig_var w4 I hSl DI hDD.symm
  have hT4 := hT1.below hb14
  have hsz4 := hb14.size
  have hP4 := (Array.getElem?_eq_some_iff.1 hrw5).1
  have hMS : Bx (MS w.heap.size w1.heap.size w4.heap.size B I w ((w4.alloc (.cells #[.int .u8 0, .int .u8 0, .int .u8 0, .int .u8 0, .int .u8 0, .int .u8 0, .int .u8 0, .int .u8 0, .int .u8 0, .int .u8 0, .int .u8 0, .int .u8 0, .int .u8 0, .int .u8 0, .int .u8 0, .int .u8 0, .int .u8 0, .int .u8 0, .int .u8 0, .int .u8 0, .int .u8 0, .int .u8 0, .int .u8 0, .int .u8 0, .int .u8 0, .int .u8 0, .int .u8 0, .int .u8 0, .int .u8 0, .int .u8 0, .int .u8 0, .int .u8 0] 30)).setCells w4.heap.size 0 DI.toList)) :=
    ⟨⟨(hlow1.trans (hb14.mono (by omega))).trans (hdv.low.mono (by omega)), ⟨cs, hcs, by rw [hdv.low.block _ (by omega), hb14.block _ (by omega)]; exact hres1⟩, by rw [hdv.low.block _ hP4]; exact hrw5, hdv.row, hT4.below hdv.low, by omega, hP4⟩⟩
  have HTH0 : Bx ((w4.alloc (.cells #[.int .u8 0, .int .u8 0, .int .u8 0, .int .u8 0, .int .u8 0, .int .u8 0, .int .u8 0, .int .u8 0, .int .u8 0, .int .u8 0, .int .u8 0, .int .u8 0, .int .u8 0, .int .u8 0, .int .u8 0, .int .u8 0, .int .u8 0, .int .u8 0, .int .u8 0, .int .u8 0, .int .u8 0, .int .u8 0, .int .u8 0, .int .u8 0, .int .u8 0, .int .u8 0, .int .u8 0, .int .u8 0, .int .u8 0, .int .u8 0, .int .u8 0, .int .u8 0] 30)).there w4.heap.size 0 DI.size) := ⟨hth⟩
  have HINF : Bx ((Tryd.prog.info? 30).map (·.size) = some DI.size) := ⟨hinf⟩
  have HONE : Bx (DI.all (·.oneCell') = true) := ⟨hone⟩
  clear hdv hth hinf hone hDD hb13 hb14 hb4 hrw4 hrw5 ht3 hT3 hT4 hsz4 hP4 hlow1 hres1 ht1 hT1 hsz1 hs0 hcs
  go_wp2_with (refine wpList_store_mid rfl 30 (.tmp 6) (.tmp 12) rfl w4.heap.size 0 DI rfl rfl HTH0.out HINF.out HONE.out ?_; have hms := hMS.out; generalize (w4.alloc (.cells #[.int .u8 0, .int .u8 0, .int .u8 0, .int .u8 0, .int .u8 0, .int .u8 0, .int .u8 0, .int .u8 0, .int .u8 0, .int .u8 0, .int .u8 0, .int .u8 0, .int .u8 0, .int .u8 0, .int .u8 0, .int .u8 0, .int .u8 0, .int .u8 0, .int .u8 0, .int .u8 0, .int .u8 0, .int .u8 0, .int .u8 0, .int .u8 0, .int .u8 0, .int .u8 0, .int .u8 0, .int .u8 0, .int .u8 0, .int .u8 0, .int .u8 0, .int .u8 0] 30)).setCells w4.heap.size 0 DI.toList = w5 at hms ⊢; clear hMS HTH0)
  obtain ⟨R, hR⟩ : ∃ R, R = w.heap.size := ⟨_, rfl⟩
  obtain ⟨P, hP⟩ : ∃ P, P = w1.heap.size := ⟨_, rfl⟩
  obtain ⟨Q, hQ⟩ : ∃ Q, Q = w4.heap.size := ⟨_, rfl⟩
  rw [← hR, ← hP, ← hQ] at hms ⊢
  have HR : Hid (R = w.heap.size) := hR
  have hRp : 0 < R := by omega
  clear hR hP hQ HINF HONE
  have hYl : (xorB B 92).length = 64 := by rw [xorB_length, hBl]
  have hYb : Byt (xorB B 92) := xorB_byt hBb (by decide)
  obtain ⟨Z, hZ⟩ : ∃ Z, Z = sumL (xorB B 92 ++ I) := ⟨_, rfl⟩
  have HC : Bx (∀ w', Bts w' (some ⟨Q, 0, none⟩) 32 32 I → Tab w' → Calls Tryd.prog 77 #[.agg (bv (xorB B 92)).toArray, .slice (some ⟨Q, 0, none⟩) 32 32] w' fun e w'' => e = .returned (.agg (bv Z).toArray) ∧ Below w'.heap.size w' w'') := ⟨fun w' h1 h2 => by rw [hZ]; exact behind_any (xorB B 92) I _ 32 32 _ hYb hYl h1 h2 (by decide)⟩
  have HMb : Bx (Ending.returned (.agg (bv Z).toArray) = .returned (.agg (bv (macL k t)).toArray)) := ⟨by rw [HMAC.out, hZ]⟩
  have hZl : (bv Z).length = 32 := by rw [hZ, bv_length, sumL_length]
  have hZi : (Tryd.prog.info? 30).map (·.size) = some (bv Z).length := by rw [hZl]; exact dig_info
  have hZo := bv_one Z
  have HZi : Bx ((Tryd.prog.info? 30).map (·.size) = some (bv Z).toArray.size) := ⟨by rw [List.size_toArray]; exact hZi⟩
  have HZl : Bx ((bv Z).length = 32) := ⟨hZl⟩
  have h0 := hms.drewN 1
  have r1 : w5.rangeAt P 0 (bv B) := range_row hms.blk
  have hu' := Tryd.underlying105
  have hi' : (Tryd.prog.info? 105).map (·.size) = some (bv B).length := by rw [bv_length, hBl]; exact in_info
  have hn' : (bv B).length = 64 := by rw [bv_length, hBl]
  have ho' := bv_one B
  have hda := dig_all Q
  clear HMAC hZ hYl hYb
  go_region_held3 (fun w' => w'.rangeAt P 0 (bv B) ∧ w'.there R 0 32 ∧ MS R P Q B I w w') (first | (exact h0.held) | (exact ms_step (by assumption) hb6) | (exact ms_step (by assumption) hb7) | (exact ms_store (by assumption) hRp HZl.out)) (first | (go_at_call 78; refine (masked_any B 92 _ hBb hBl (by decide)).mono ?_; rintro e6 w6 ⟨rfl, hb6⟩; generalize (bv (xorB B 92)).toArray = Y at HC ⊢) | (go_at_call 77; refine (HC.out _ (ms_bts (by assumption) hSb hSl) (ms_tab (by assumption))).mono ?_; rintro e7 w7 ⟨rfl, hb7⟩; have hms7 := And.right (And.right (ms_step (by assumption) hb7))))
  have HF := hms7.store hRp HZl.out
  have HST : Bx _ := ⟨HF.2⟩
  have HBS : Bx (Below w.heap.size w (w7.setCells R 0 (bv Z))) := ⟨by rw [← HR.out]; exact HF.1.low⟩
  clear HF hms7
  go_wp2
  exact bodyPost_ret (v := .agg (bv Z).toArray) (results_cell_row rfl _ _ R 30 (bv Z).toArray (0, 0) _ rfl HST.out Tryd.underlying30 rfl HZi.out) rfl ⟨HMb.out, HBS.out⟩
end Go.Proofs.YtbednfacipphhaaDoor
