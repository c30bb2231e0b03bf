/- Digests of whatever make behind an own row of digests; Few and Same of the document's own. A list of one digest, written out; and a digest's comparison with whatever digest. What cutLast answers; results of several kinds. -/
import Derived.Test.YtfkloilbjfleeaaDoorDgs
import Derived.Test.YtfkloilbjfleeaaDoorEql
import Derived.Test.YtfkloilbjfleeaaDoorSma
namespace Go.Proofs.YtfkloilbjfleeaaDoor
open Go.RowKit
set_option linter.unusedVariables false

theorem flat_len {L : List (List Int)} (h : Dgl L) : L.flatten.length = L.length * 32 := by
  induction L with
  | nil => rfl
  | cons d r ih =>
    have h1 := (h d (by simp)).1
    have h2 := ih (fun c hc => h c (by simp [hc]))
    simp only [List.flatten_cons, List.length_append, List.length_cons]
    omega
theorem flat_get {L : List (List Int)} (h : Dgl L) : ∀ j, j < 32 * L.length → L.flatten[j]? = (L.getD (j / 32) [])[j % 32]? := by
  induction L with
  | nil => intro j hj; simp at hj
  | cons d r ih =>
    intro j hj
    have h1 := (h d (by simp)).1
    rw [List.flatten_cons]
    by_cases hlt : j < 32
    · rw [List.getElem?_append_left (by omega), Nat.div_eq_of_lt hlt, Nat.mod_eq_of_lt hlt]; rfl
    · rw [List.getElem?_append_right (by omega), h1, ih (fun c hc => h c (by simp [hc])) (j - 32) (by rw [List.length_cons] at hj; omega), show (j - 32) / 32 = j / 32 - 1 from by omega, show (j - 32) % 32 = j % 32 from by omega]
      obtain ⟨q, hq⟩ : ∃ q, j / 32 = q + 1 := ⟨j / 32 - 1, by omega⟩
      rw [hq]; rfl
theorem Dgs.cells {w : World} {ad : Addr} {len cap : Nat} {L : List (List Int)} (h : Dgs w (some ad) len cap L) : ∀ j u, (bv L.flatten)[j]? = some u → w.cell? (ad.add j) = some u := by
  intro j u hj
  have hl := h.len_eq
  have hjl : j < 32 * L.length := by
    have := (List.getElem?_eq_some_iff.1 hj).1
    rw [bv_length, flat_len h.dig] at this; omega
  obtain ⟨b, off, e, _, hc⟩ := h.spot (by omega)
  cases e
  rw [Addr.add_lit]
  have h1 := hc (j / 32) (by omega) (j % 32) u (by
    unfold bv at hj ⊢
    rw [List.getElem?_map, flat_get h.dig j hjl] at hj
    rw [List.getElem?_map]; exact hj)
  rw [show off + 32 * (j / 32) + j % 32 = off + j from by omega] at h1
  exact h1
/-- what is owned reads as the digests -/
theorem Dgs.of_owns {w : World} {base n : Nat} {v : Value} {L : List (List Int)} (h : w.ownsRow base 42 32 v n (bv L.flatten)) (hL : Dgl L) :
    ∃ ao cap, v = .slice ao n cap ∧ Dgs w ao n cap L := by
  have hlen : L.length = n := by have := h.1; rw [bv_length, flat_len hL] at this; omega
  rcases h.2 with ⟨rfl, hn⟩ | ⟨g, cap, cur, rfl, hb, hg, hnc, hcm, hcs, ht⟩
  · subst hn
    exact ⟨_, 0, rfl, hlen, hL, Nat.le_refl _, Nat.zero_le _, fun _ => rfl, fun hp => absurd hp (Nat.lt_irrefl _)⟩
  · refine ⟨some ⟨g, 0, _⟩, cap, rfl, hlen, hL, hnc, hcm, (fun hh => by cases hh), fun _ => ⟨g, 0, rfl, (Array.getElem?_eq_some_iff.1 hg).1, fun i hi j v hj => ?_⟩⟩
    have hd := (hL.getD i (by omega)).1
    have hj32 : j < 32 := by have := (List.getElem?_eq_some_iff.1 hj).1; rw [bv_length, hd] at this; exact this
    rw [Nat.zero_add, h.cellAt (32 * i + j) (by omega)]
    unfold bv at hj ⊢
    rw [List.getElem?_map, flat_get hL (32 * i + j) (by omega), show (32 * i + j) / 32 = i from by omega, show (32 * i + j) % 32 = j from by omega, ← List.getElem?_map]
    exact hj
theorem flat_app (L M : List (List Int)) : bv (L ++ M).flatten = bv L.flatten ++ bv M.flatten := by rw [List.flatten_append, bv_append]
/-- digests of whatever make behind an own row -/
theorem wp_append_dgs {o : Oper} {a : Act} {w : World} {K : Act → World → Prop} {Q : Exit → Act → World → Prop} (s x : Operand)
    (ho : o.op = .call { callee := .builtin .append, args := #[s, x], argTypes := #[30, 30] })
    (base n : Nat) (v : Value) (L : List (List Int)) (hs : a.eval s = v) (hown : w.ownsRow base 42 32 v n (bv L.flatten))
    (ao : Option Addr) (m c : Nat) (M : List (List Int)) (hx : a.eval x = .slice ao m c) (hb : Dgs w ao m c M) (h63 : n + m ≤ 1099511627776) (hbase : base ≤ w.heap.size)
    (h : ∀ v' w', w'.ownsRow base 42 32 v' (n + m) (bv (L ++ M).flatten) → Below base w w' → w.grownBy w' v.ownBlock → K (a.put o.dst v') w') : o.wp Tryd.prog a w K Q := by
  obtain ⟨i0, hi, hz0, hz1, hz2⟩ := info_parts dgs_info
  have hu : Tryd.prog.underlying 30 = some (.slice 42) := Tryd.underlying30
  cases ao with
  | none =>
    have h0 := hb.nil rfl
    have h1 := hb.le_cap
    obtain rfl : c = 0 := h0
    obtain rfl : m = 0 := by omega
    obtain rfl : M = [] := List.eq_nil_of_length_eq_zero hb.len_eq
    have hrun := run_append_owned_none (P := Tryd.prog) (w := w) base 30 o.type 42 i0 32 hu hi v n (bv L.flatten) hown
    unfold Oper.wp
    simp [execOp, ho, resolve, invoke, builtin, hs, hx, hrun, Result.andThen]
    exact h _ _ (by rw [List.append_nil]; exact hown) (Below.refl _ _) ⟨rfl, rfl, rfl, Nat.le_refl _, fun _ _ _ => rfl⟩
  | some ad =>
    have hl := hb.len_eq
    refine wp_append_own w s x 30 ho base 42 i0 (.agg #[.int .u8 0, .int .u8 0, .int .u8 0, .int .u8 0, .int .u8 0, .int .u8 0, .int .u8 0, .int .u8 0, .int .u8 0, .int .u8 0, .int .u8 0, .int .u8 0, .int .u8 0, .int .u8 0, .int .u8 0, .int .u8 0, .int .u8 0, .int .u8 0, .int .u8 0, .int .u8 0, .int .u8 0, .int .u8 0, .int .u8 0, .int .u8 0, .int .u8 0, .int .u8 0, .int .u8 0, .int .u8 0, .int .u8 0, .int .u8 0, .int .u8 0, .int .u8 0]) 32 32 hu hi hz0 hz1 hz2 rfl (by decide) v n (bv L.flatten) hs hown ad m c (bv M.flatten) hx (by rw [bv_length, flat_len hb.dig]; omega) hb.cells (bv_one _) (by unfold maxLen; omega) (by omega) hbase ?_
    intro v' w' ho' hg _
    exact h v' w' (by rw [flat_app]; exact ho') ((Below.refl _ _).grown hg hbase (fun k hk => (hown.lt k hk).1)) hg
theorem wpList_append_dgs {ops : Array Oper} {rest : List Oper} {o : Oper} {a : Act} {w : World} {Q : Exit → Act → World → Prop} (hgd : o.guard = none) (s x : Operand)
    (ho : o.op = .call { callee := .builtin .append, args := #[s, x], argTypes := #[30, 30] })
    (base n : Nat) (v : Value) (L : List (List Int)) (hs : a.eval s = v) (hown : w.ownsRow base 42 32 v n (bv L.flatten))
    (ao : Option Addr) (m c : Nat) (M : List (List Int)) (hx : a.eval x = .slice ao m c) (hb : Dgs w ao m c M) (h63 : n + m ≤ 1099511627776) (hbase : base ≤ w.heap.size)
    (h : ∀ v' w', w'.ownsRow base 42 32 v' (n + m) (bv (L ++ M).flatten) → Below base w w' → w.grownBy w' v.ownBlock → wpList Tryd.prog ops Q rest (a.put o.dst v') w') : wpList Tryd.prog ops Q (o :: rest) a w :=
  wpList_plain hgd fun K hK => wp_append_dgs s x ho base n v L hs hown ao m c M hx hb h63 hbase (fun v' w' h1 h2 h3 => hK _ _ (h v' w' h1 h2 h3))
theorem step_append_dgs {ops : Array Oper} {o : Oper} {a : Act} {w : World} {K : Act → World → Prop} {Q : Exit → Act → World → Prop} {E : Prop} (hgd : o.guard = none) (s x : Operand)
    (ho : o.op = .call { callee := .builtin .append, args := #[s, x], argTypes := #[30, 30] })
    (base n : Nat) (v : Value) (L : List (List Int)) (hs : a.eval s = v) (hown : w.ownsRow base 42 32 v n (bv L.flatten))
    (ao : Option Addr) (m c : Nat) (M : List (List Int)) (hx : a.eval x = .slice ao m c) (hb : Dgs w ao m c M) (h63 : n + m ≤ 1099511627776) (hbase : base ≤ w.heap.size)
    (h : ∀ v' w', w'.ownsRow base 42 32 v' (n + m) (bv (L ++ M).flatten) → Below base w w' → w.grownBy w' v.ownBlock → K (a.put o.dst v') w') :
    if Region.wanted o (yielded ops a.tmps) = true then Oper.wp Tryd.prog o a w K Q else E := by
  have hw : Region.wanted o (yielded ops a.tmps) = true := by simp [Region.wanted, hgd]
  rw [if_pos hw]
  exact wp_append_dgs s x ho base n v L hs hown ao m c M hx hb h63 hbase h

set_option maxRecDepth 100000 in
set_option maxHeartbeats 400000 in
theorem few_any (a : Option Addr) (len cap n : Nat) (L : List (List Int)) (w : World) (hL : Dgs w a len cap L) (hn : n ≤ 1000) :
    Calls Tryd.prog 13 #[.slice a len cap, .int .i64 n] w fun e w' => ∃ a' m c, e = .returned (.slice a' m c) ∧ m ≤ n ∧ Dgs w' a' m c (L.take n) ∧ Below w.heap.size w w' := by
  have hll := hL.len_eq
  have hcc := hL.le_cap
  have hcm := hL.cap_le
  unfold maxLen at hcm
  have hnil : w.ownsRow w.heap.size 42 32 (.slice none 0 0) 0 (bv (([] : List (List Int)).flatten)) := World.ownsRow_nil _ _ _ _
  by_cases hgt : (n : Int) < (len : Int)
  · have hT := hL.take n (by omega)
    obtain ⟨b, off, rfl, _, _⟩ := hL.spot (by omega)
    have hsl := dgs_cut b off len cap n (by omega)
    have HD : Hid (Dgl (L.take n)) := hL.dig.take n
    clear hL hll
    go_enter Tryd.func13, Tryd.ntmps13
    go_wp2_with (at_builtin; refine wpList_append_dgs rfl (.tmp 13) (.tmp 14) rfl w.heap.size 0 _ [] rfl hnil _ n cap (L.take n) rfl hT (by omega) (Nat.le_refl _) ?_; intro v' w' ho' hb' _; obtain ⟨a', c', rfl, hD⟩ := Dgs.of_owns ho' (by rw [List.nil_append]; exact HD.out); rw [List.nil_append, Nat.zero_add] at hD; clear ho' hT)
    go_ret
    exact ⟨a', n, c', rfl, Nat.le_refl _, hD, hb'⟩
  · have HT : Hid (L.take n = L) := List.take_of_length_le (by omega)
    have HD : Hid (Dgl L) := hL.dig
    clear hll
    go_enter Tryd.func13, Tryd.ntmps13
    go_wp2_with (at_builtin; refine wpList_append_dgs rfl (.tmp 13) (.tmp 14) rfl w.heap.size 0 _ [] rfl hnil a len cap L rfl hL (by omega) (Nat.le_refl _) ?_; intro v' w' ho' hb' _; obtain ⟨a', c', rfl, hD⟩ := Dgs.of_owns ho' (by rw [List.nil_append]; exact HD.out); rw [List.nil_append, Nat.zero_add] at hD; clear ho' hL)
    go_ret
    exact ⟨a', len, c', rfl, by omega, by rw [HT.out]; exact hD, hb'⟩

set_option maxRecDepth 100000 in
set_option maxHeartbeats 1000000 in
theorem dsame_yes (a b : Option Addr) (n c d : Nat) (L : List (List Int)) (w : World) (ha : Dgs w a n c L) (hb : Dgs w b n d L) :
    Calls Tryd.prog 18 #[.slice a n c, .slice b n d] w fun e w' => e = .returned (.bool true) ∧ ∃ q, w' = w.drewN q := by
  have hc1 := ha.le_cap
  have hc2 := ha.cap_le
  have hl := ha.len_eq
  unfold maxLen at hc2
  have hq : ((n : Int) != (n : Int)) = false := by simp
  go_enter Tryd.func18, Tryd.ntmps18
  go_wp2
  go_loopw [5] (fun i wr => ∃ k q : Nat, k ≤ n ∧ i = .int .i64 k ∧ wr = w.drewN q) (fun i _ => n - (intOf i).toNat)
  case atStart => exact ⟨0, 0, Nat.zero_le _, rfl, rfl⟩
  case round =>
    obtain ⟨k, q, hk, rfl, hwr⟩ := hrel
    have HW : Hid (wr = w.drewN q) := hwr
    by_cases hlt : k < n
    · have ha1 : Dgs wr a n c L := by rw [hwr]; exact ha.drewN q
      have hb1 : Dgs wr b n d L := by rw [hwr]; exact hb.drewN q
      clear hwr
      obtain ⟨b1, o1, rfl, _, h1⟩ := ha1.spot (by omega)
      obtain ⟨b2, o2, rfl, _, h2⟩ := hb1.spot (by omega)
      have hD := ha.dig.getD k (by omega)
      have r1 := h1 k hlt
      have r2 := h2 k hlt
      have hi := dig_eq (L.getD k []) hD.1
      have hdi : (Tryd.prog.info? 42).map (·.size) = some (bv (L.getD k [])).length := by rw [bv_length, hD.1]; exact dig_info
      generalize L.getD k [] = D at r1 r2 hi hdi hD
      have hki : (k : Int) < (n : Int) := by omega
      clear h1 h2 ha1 hb1
      have hk : wr.drew.rangeAt b1 (o1 + k * 32) (bv D) ∧ wr.drew.rangeAt b2 (o2 + k * 32) (bv D) := by
        rw [Nat.mul_comm k 32]; exact ⟨r1, r2⟩
      have HQ : Hid (wr.drew = w.drewN (q + 1)) := by show _ = _; rw [HW.out]; rfl
      clear r1 r2 HW
      go_wp2_with fail
      refine wp_region_held_drew (S := fun W => W.rangeAt b1 (o1 + k * 32) (bv D) ∧ W.rangeAt b2 (o2 + k * 32) (bv D)) (by kernel_rfl) hk (fun _ => ?_)
      refine wpAnyH_take (i := 0) (oi := { dst := some 17, op := Op.move (Operand.tmp 0), type := 30, pos := "ref.go:180", after := #[], guard := none }) (v := ?vsame1) rfl (by kernel_rfl) (by kernel_rfl) (by kernel_rfl) (fun _ _ _ h => h) (Or.inl ⟨by rfl, ?ysame1⟩) hk ?rsame1
      case ysame1 => (intro w hSw; (try dsimp only at hSw); go_simp; first | done | with_reducible rfl)
      simp only [Act.put, List.setIfInBounds_toArray, List.set_cons_zero, List.set_cons_succ]
      refine wpAnyH_take (i := 1) (oi := { dst := some 18, op := Op.move (Operand.tmp 5), type := 3, pos := "ref.go:180", after := #[], guard := none }) (v := ?vsame2) rfl (by kernel_rfl) (by kernel_rfl) (by kernel_rfl) (fun _ _ _ h => h) (Or.inl ⟨by rfl, ?ysame2⟩) hk ?rsame2
      case ysame2 => (intro w hSw; (try dsimp only at hSw); go_simp; first | done | with_reducible rfl)
      simp only [Act.put, List.setIfInBounds_toArray, List.set_cons_zero, List.set_cons_succ]
      refine wpAnyH_take (i := 2) (oi := { dst := some 19, op := Op.indexAddr 30 (Operand.tmp 17) (Operand.tmp 18), type := 0, pos := "ref.go:180", after := #[{ on := 0, ground := Ground.data }, { on := 1, ground := Ground.data }], guard := none }) (v := ?vsame3) rfl (by kernel_rfl) (by kernel_rfl) (by kernel_rfl) (fun _ _ _ h => h) (Or.inl ⟨by rfl, ?ysame3⟩) hk ?rsame3
      case ysame3 => (intro w hSw; (try dsimp only at hSw); go_simp; first | done | with_reducible rfl)
      simp only [Act.put, List.setIfInBounds_toArray, List.set_cons_zero, List.set_cons_succ]
      refine wpAnyH_take (i := 3) (oi := { dst := some 20, op := Op.load 42 (Operand.tmp 19), type := 42, pos := "ref.go:180", after := #[{ on := 2, ground := Ground.data }], guard := none }) (v := .agg (bv D).toArray) rfl (by kernel_rfl) (by kernel_rfl) (by kernel_rfl) (fun _ _ _ h => h) (yieldsIf_load_mid (by rfl) 42 (.tmp 19) rfl b1 (o1 + k * 32) rfl (bv D) _ (fun w h => h.1) Tryd.underlying42 rfl hdi) hk ?_
      simp only [Act.put, List.setIfInBounds_toArray, List.set_cons_zero, List.set_cons_succ]
      refine wpAnyH_take (i := 4) (oi := { dst := some 21, op := Op.move (Operand.tmp 1), type := 30, pos := "ref.go:180", after := #[], guard := none }) (v := ?vsame4) rfl (by kernel_rfl) (by kernel_rfl) (by kernel_rfl) (fun _ _ _ h => h) (Or.inl ⟨by rfl, ?ysame4⟩) hk ?rsame4
      case ysame4 => (intro w hSw; (try dsimp only at hSw); go_simp; first | done | with_reducible rfl)
      simp only [Act.put, List.setIfInBounds_toArray, List.set_cons_zero, List.set_cons_succ]
      refine wpAnyH_take (i := 5) (oi := { dst := some 22, op := Op.move (Operand.tmp 5), type := 3, pos := "ref.go:180", after := #[], guard := none }) (v := ?vsame5) rfl (by kernel_rfl) (by kernel_rfl) (by kernel_rfl) (fun _ _ _ h => h) (Or.inl ⟨by rfl, ?ysame5⟩) hk ?rsame5
      case ysame5 => (intro w hSw; (try dsimp only at hSw); go_simp; first | done | with_reducible rfl)
      simp only [Act.put, List.setIfInBounds_toArray, List.set_cons_zero, List.set_cons_succ]
      refine wpAnyH_take (i := 6) (oi := { dst := some 23, op := Op.indexAddr 30 (Operand.tmp 21) (Operand.tmp 22), type := 0, pos := "ref.go:180", after := #[{ on := 4, ground := Ground.data }, { on := 5, ground := Ground.data }], guard := none }) (v := ?vsame6) rfl (by kernel_rfl) (by kernel_rfl) (by kernel_rfl) (fun _ _ _ h => h) (Or.inl ⟨by rfl, ?ysame6⟩) hk ?rsame6
      case ysame6 => (intro w hSw; (try dsimp only at hSw); go_simp; first | done | with_reducible rfl)
      simp only [Act.put, List.setIfInBounds_toArray, List.set_cons_zero, List.set_cons_succ]
      refine wpAnyH_take (i := 7) (oi := { dst := some 24, op := Op.load 42 (Operand.tmp 23), type := 42, pos := "ref.go:180", after := #[{ on := 6, ground := Ground.data }], guard := none }) (v := .agg (bv D).toArray) rfl (by kernel_rfl) (by kernel_rfl) (by kernel_rfl) (fun _ _ _ h => h) (yieldsIf_load_mid (by rfl) 42 (.tmp 23) rfl b2 (o2 + k * 32) rfl (bv D) _ (fun w h => h.2) Tryd.underlying42 rfl hdi) hk ?_
      simp only [Act.put, List.setIfInBounds_toArray, List.set_cons_zero, List.set_cons_succ]
      refine wpAnyH_take (i := 8) (oi := { dst := some 25, op := Op.binOp BinOp.neq 42 (Operand.tmp 20) (Operand.tmp 24) 42, type := 4, pos := "ref.go:180", after := #[{ on := 3, ground := Ground.data }, { on := 7, ground := Ground.data }], guard := none }) (v := ?vsame7) rfl (by kernel_rfl) (by kernel_rfl) (by kernel_rfl) (fun _ _ _ h => h) (Or.inl ⟨by rfl, ?ysame7⟩) hk ?rsame7
      case ysame7 => (intro w hSw; (try dsimp only at hSw); go_simp; first | done | with_reducible rfl)
      simp only [Act.put, List.setIfInBounds_toArray, List.set_cons_zero, List.set_cons_succ]
      refine wpAnyH_done (by decide +kernel) ?_ _
      clear hk
      go_wp2
      go_roundw
      case rel => exact ⟨k + 1, q + 1, by omega, by go_num, HQ.out⟩
      case measure => simp [intOf]; omega
    · clear hwr
      go_wp2
      go_ret
      exact ⟨rfl, q, HW.out⟩
end Go.Proofs.YtfkloilbjfleeaaDoor
namespace Go.Proofs.YtfkloilbjfleeaaDoor
open Go.RowKit
set_option linter.unusedVariables false

set_option maxRecDepth 100000 in
theorem fold_set : ∀ (l : List Value) (k : Nat) (cs : Array Value), k + l.length ≤ cs.size →
    ((l.zipIdx k).foldl (fun (cs : Array Value) (p : Value × Nat) => cs.setIfInBounds (0 + p.2) p.1) cs).size = cs.size ∧ ∀ j, ((l.zipIdx k).foldl (fun (cs : Array Value) (p : Value × Nat) => cs.setIfInBounds (0 + p.2) p.1) cs)[j]? = if k ≤ j ∧ j < k + l.length then l[j - k]? else cs[j]? := by
  intro l
  induction l with
  | nil => intro k cs _; exact ⟨rfl, fun j => by rw [if_neg (by rw [List.length_nil]; omega)]; rfl⟩
  | cons v r ih =>
    intro k cs hl
    rw [List.length_cons] at hl
    rw [List.zipIdx_cons, List.foldl_cons]
    obtain ⟨h1, h2⟩ := ih (k + 1) (cs.setIfInBounds (0 + k) v) (by simp; omega)
    refine ⟨by rw [h1]; simp, fun j => ?_⟩
    rw [h2 j, List.length_cons]
    by_cases hj : j = k
    · subst hj
      rw [if_neg (by omega), if_pos (by omega), Array.getElem?_setIfInBounds, Nat.zero_add, if_pos rfl, if_pos (by omega), Nat.sub_self]; rfl
    · by_cases hj2 : k + 1 ≤ j ∧ j < k + 1 + r.length
      · rw [if_pos hj2, if_pos (by omega), show j - k = j - (k + 1) + 1 from by omega]; simp
      · rw [if_neg hj2, if_neg (by omega)]
        simp [Ne.symm hj]
set_option maxRecDepth 100000 in
theorem build_one (R : List Int) (hR : R.length = 32) (w : World) : (Instr.buildSlice 30 1 #[(0, .agg (bv R).toArray)]).run Tryd.prog w = .ok (.slice (some ⟨w.heap.size, 0, none⟩) 1 1) (w.alloc (.cells (bv R).toArray 42)) := by
  obtain ⟨i0, hi, hz0, hz1, hz2⟩ := info_parts dgs_info
  have hs : (bv R).toArray.size = 32 := by rw [List.size_toArray, bv_length, hR]
  have hz : (zeroValue 42).run Tryd.prog w = .ok (.agg #[.int .u8 0, .int .u8 0, .int .u8 0, .int .u8 0, .int .u8 0, .int .u8 0, .int .u8 0, .int .u8 0, .int .u8 0, .int .u8 0, .int .u8 0, .int .u8 0, .int .u8 0, .int .u8 0, .int .u8 0, .int .u8 0, .int .u8 0, .int .u8 0, .int .u8 0, .int .u8 0, .int .u8 0, .int .u8 0, .int .u8 0, .int .u8 0, .int .u8 0, .int .u8 0, .int .u8 0, .int .u8 0, .int .u8 0, .int .u8 0, .int .u8 0, .int .u8 0]) w := by simp [zeroValue, typeInfo, hi, hz0]
  have hsz : (Go.sizeOf 42).run Tryd.prog w = .ok 32 w := by simp [Go.sizeOf, typeInfo, hi, hz1]
  have hu := run_underlying (P := Tryd.prog) (w := w) Tryd.underlying30
  have hfill : Instr.fill (fun i => some (i * 32, 32)) ((Array.range 32).map ((Value.agg #[.int .u8 0, .int .u8 0, .int .u8 0, .int .u8 0, .int .u8 0, .int .u8 0, .int .u8 0, .int .u8 0, .int .u8 0, .int .u8 0, .int .u8 0, .int .u8 0, .int .u8 0, .int .u8 0, .int .u8 0, .int .u8 0, .int .u8 0, .int .u8 0, .int .u8 0, .int .u8 0, .int .u8 0, .int .u8 0, .int .u8 0, .int .u8 0, .int .u8 0, .int .u8 0, .int .u8 0, .int .u8 0, .int .u8 0, .int .u8 0, .int .u8 0, .int .u8 0]).cells[· % (Value.agg #[.int .u8 0, .int .u8 0, .int .u8 0, .int .u8 0, .int .u8 0, .int .u8 0, .int .u8 0, .int .u8 0, .int .u8 0, .int .u8 0, .int .u8 0, .int .u8 0, .int .u8 0, .int .u8 0, .int .u8 0, .int .u8 0, .int .u8 0, .int .u8 0, .int .u8 0, .int .u8 0, .int .u8 0, .int .u8 0, .int .u8 0, .int .u8 0, .int .u8 0, .int .u8 0, .int .u8 0, .int .u8 0, .int .u8 0, .int .u8 0, .int .u8 0, .int .u8 0]).cells.size]!)) [(0, .agg (bv R).toArray)] = some (bv R).toArray := by
    have hc : (Value.agg (bv R).toArray).cells = (bv R).toArray := rfl
    have hm : ((Array.range 32).map ((Value.agg #[.int .u8 0, .int .u8 0, .int .u8 0, .int .u8 0, .int .u8 0, .int .u8 0, .int .u8 0, .int .u8 0, .int .u8 0, .int .u8 0, .int .u8 0, .int .u8 0, .int .u8 0, .int .u8 0, .int .u8 0, .int .u8 0, .int .u8 0, .int .u8 0, .int .u8 0, .int .u8 0, .int .u8 0, .int .u8 0, .int .u8 0, .int .u8 0, .int .u8 0, .int .u8 0, .int .u8 0, .int .u8 0, .int .u8 0, .int .u8 0, .int .u8 0, .int .u8 0]).cells[· % (Value.agg #[.int .u8 0, .int .u8 0, .int .u8 0, .int .u8 0, .int .u8 0, .int .u8 0, .int .u8 0, .int .u8 0, .int .u8 0, .int .u8 0, .int .u8 0, .int .u8 0, .int .u8 0, .int .u8 0, .int .u8 0, .int .u8 0, .int .u8 0, .int .u8 0, .int .u8 0, .int .u8 0, .int .u8 0, .int .u8 0, .int .u8 0, .int .u8 0, .int .u8 0, .int .u8 0, .int .u8 0, .int .u8 0, .int .u8 0, .int .u8 0, .int .u8 0, .int .u8 0]).cells.size]!)).size = 32 := by simp
    generalize (Array.range 32).map ((Value.agg #[.int .u8 0, .int .u8 0, .int .u8 0, .int .u8 0, .int .u8 0, .int .u8 0, .int .u8 0, .int .u8 0, .int .u8 0, .int .u8 0, .int .u8 0, .int .u8 0, .int .u8 0, .int .u8 0, .int .u8 0, .int .u8 0, .int .u8 0, .int .u8 0, .int .u8 0, .int .u8 0, .int .u8 0, .int .u8 0, .int .u8 0, .int .u8 0, .int .u8 0, .int .u8 0, .int .u8 0, .int .u8 0, .int .u8 0, .int .u8 0, .int .u8 0, .int .u8 0]).cells[· % (Value.agg #[.int .u8 0, .int .u8 0, .int .u8 0, .int .u8 0, .int .u8 0, .int .u8 0, .int .u8 0, .int .u8 0, .int .u8 0, .int .u8 0, .int .u8 0, .int .u8 0, .int .u8 0, .int .u8 0, .int .u8 0, .int .u8 0, .int .u8 0, .int .u8 0, .int .u8 0, .int .u8 0, .int .u8 0, .int .u8 0, .int .u8 0, .int .u8 0, .int .u8 0, .int .u8 0, .int .u8 0, .int .u8 0, .int .u8 0, .int .u8 0, .int .u8 0, .int .u8 0]).cells.size]!) = zs at hm
    simp only [Instr.fill, hc, hs, hm]
    rw [if_neg (by decide)]
    congr 1
    obtain ⟨h1, h2⟩ := fold_set (bv R) 0 zs (by rw [bv_length, hR, hm]; decide)
    apply Array.ext_getElem?
    intro j
    have h3 := h2 j
    rw [List.size_toArray] at hs
    have hzi : (bv R).toArray.zipIdx = ((bv R).zipIdx).toArray := by simp
    rw [hzi]
    simp only [Nat.zero_mul, List.foldl_toArray]
    rw [h3]
    by_cases hj : j < 32
    · rw [if_pos (by omega), Nat.sub_zero]; simp
    · rw [if_neg (by omega), Array.getElem?_eq_none (by omega), Array.getElem?_eq_none (by rw [List.size_toArray]; omega)]
  simp only [Instr.buildSlice, Sem.run_bind, hu, hsz, Result.andThen_ok]
  rw [if_neg (by decide), if_neg (by decide)]
  simp only [Sem.run_bind, hz, Result.andThen_ok, Nat.one_mul, Sem.run_pure]
  rw [hfill]
  simp [newRow, go_sem]
set_option maxRecDepth 100000 in
/-- a list of one digest, written out -/
theorem wp_build_one {o : Oper} {a : Act} {w : World} {K : Act → World → Prop} {Q : Exit → Act → World → Prop} (x : Operand) (ho : o.op = .buildSlice 30 1 #[(0, x)]) (R : List Int) (hR : R.length = 32) (hx : a.eval x = .agg (bv R).toArray)
    (h : K (a.put o.dst (.slice (some ⟨w.heap.size, 0, none⟩) 1 1)) (w.alloc (.cells (bv R).toArray 42))) : o.wp Tryd.prog a w K Q := by
  have hb := build_one R hR w
  unfold Oper.wp execOp
  simp [ho, hx, hb]
  exact h
set_option maxRecDepth 100000 in
theorem wpList_build_one {ops : Array Oper} {rest : List Oper} {o : Oper} {a : Act} {w : World} {Q : Exit → Act → World → Prop} (hgd : o.guard = none) (x : Operand) (ho : o.op = .buildSlice 30 1 #[(0, x)]) (R : List Int) (hR : R.length = 32) (hx : a.eval x = .agg (bv R).toArray)
    (h : wpList Tryd.prog ops Q rest (a.put o.dst (.slice (some ⟨w.heap.size, 0, none⟩) 1 1)) (w.alloc (.cells (bv R).toArray 42))) : wpList Tryd.prog ops Q (o :: rest) a w :=
  wpList_plain hgd fun _ hK => wp_build_one x ho R hR hx (hK _ _ h)
set_option maxRecDepth 100000 in
theorem one_new (w : World) (R : List Int) (hR : Dg R) : Dgs (w.alloc (.cells (bv R).toArray 42)) (some ⟨w.heap.size, 0, none⟩) 1 1 [R] := by
  refine ⟨rfl, Dgl.one hR, Nat.le_refl _, by unfold maxLen; omega, (fun hh => by cases hh), fun _ => ⟨w.heap.size, 0, rfl, by simp, fun i hi j v hj => ?_⟩⟩
  obtain rfl : i = 0 := by omega
  have h := range_row (heap_alloc_new w (.cells (bv R).toArray 42))
  exact h j v hj
set_option maxRecDepth 100000 in
/-- two digests are the same if their bytes are -/
theorem eq_any (e : TypeId) (k : IntKind) (he : Tryd.prog.underlying e = some (.int k)) (hp : Tryd.prog.plainKey e = true) (d : Nat) (xs ys : Array Value) (f g : Nat → Int) (w : World) : ∀ is : List Nat, (∀ i ∈ is, xs[i]? = some (.int k (f i))) → (∀ i ∈ is, ys[i]? = some (.int k (g i))) →
    (Op.eqItems (d + 1) e 1 xs ys is).run Tryd.prog w = .ok (is.all fun i => decide (f i = g i)) w := by
  intro is
  induction is with
  | nil => intro _ _; simp [Op.eqItems]
  | cons i r ih =>
    intro h1 h2
    have hpt1 := run_part_plain (P := Tryd.prog) (w := w) hp (xs := xs) (off := i * 1) (by rw [Nat.mul_one]; exact h1 i (by simp))
    have hpt2 := run_part_plain (P := Tryd.prog) (w := w) hp (xs := ys) (off := i * 1) (by rw [Nat.mul_one]; exact h2 i (by simp))
    have heq := run_equalIn_int (P := Tryd.prog) w d e k k (f i) (g i) he
    have hih := ih (fun j hj => h1 j (by simp [hj])) (fun j hj => h2 j (by simp [hj]))
    simp only [Op.eqItems, Sem.run_bind, hpt1, hpt2, heq, Result.andThen_ok]
    by_cases hfg : f i = g i
    · simp [hfg, hih]
    · simp [hfg]
set_option maxRecDepth 100000 in
theorem dig_cmp (l m : List Int) (hl : l.length = 32) (hm : m.length = 32) (w : World) : (Op.equalIn 10000 42 (.agg (bv l).toArray) (.agg (bv m).toArray)).run Tryd.prog w = .ok (decide (l = m)) w := by
  obtain ⟨i0, hi, hz0, hz1, hz2⟩ := info_parts Tryd.info5
  have hcell : ∀ (x : List Int), x.length = 32 → ∀ i ∈ List.range 32, (bv x).toArray[i]? = some (.int .u8 (x.getD i 0)) := by
    intro x hx i hi
    have : i < 32 := by simpa using hi
    rw [List.getElem?_toArray]
    unfold bv; rw [List.getElem?_map, List.getElem?_eq_getElem (by omega), List.getD_eq_getElem?_getD, List.getElem?_eq_getElem (by omega)]; rfl
  rw [show (10000 : Nat) = 9998 + 1 + 1 from rfl, run_equalIn_array w (9998 + 1) _ _ Tryd.underlying42 hi, show Tryd.prog.cellsOf 5 = 1 by kernel_rfl]
  rw [eq_any 5 .u8 Tryd.underlying5 (by kernel_rfl) 9998 _ _ (fun i => l.getD i 0) (fun i => m.getD i 0) w (List.range 32) (hcell l hl) (hcell m hm)]
  congr 1
  by_cases he : l = m
  · subst he; simp
  · rw [decide_eq_false he]
    rw [List.all_eq_false]
    obtain ⟨i, hne⟩ : ∃ i, l[i]? ≠ m[i]? := Classical.byContradiction fun h => he (List.ext_getElem? fun i => Classical.byContradiction fun hi => h ⟨i, hi⟩)
    have hi32 : i < 32 := by
      refine Classical.byContradiction fun h => hne ?_
      rw [List.getElem?_eq_none (by omega), List.getElem?_eq_none (by omega)]
    refine ⟨i, by simpa using hi32, ?_⟩
    rw [List.getElem?_eq_getElem (by omega), List.getElem?_eq_getElem (by omega)] at hne
    simp only [List.getD_eq_getElem?_getD, List.getElem?_eq_getElem (by omega : i < l.length), List.getElem?_eq_getElem (by omega : i < m.length), Option.getD_some, decide_eq_true_eq]
    exact fun h => hne (by rw [h])
end Go.Proofs.YtfkloilbjfleeaaDoor
namespace Go.Proofs.YtfkloilbjfleeaaDoor
open Go.RowKit
set_option linter.unusedVariables false

set_option maxRecDepth 100000 in
theorem results_tc {fn : Func} {s p : Tmp} (h : fn.results = #[.tmp s, .cell p 42]) (tmps : Array Value) (w : World) (g : Nat) (cs : Array Value) (v : Value)
    (hs : tmps.getD s undef = v) (hp : tmps.getD p undef = .pointer (some ⟨g, 0, none⟩)) (hg : w.heap[g]? = some (.cells cs 42 (0, 0))) (hi : (Tryd.prog.info? 42).map (·.size) = some cs.size) :
    (results fn tmps).run Tryd.prog w = .ok (.tuple #[v, .agg cs]) w := by
  have hp' : tmps[p]?.getD undef = .pointer (some ⟨g, 0, none⟩) := by simpa using hp
  have hs' : tmps[s]?.getD undef = v := by simpa using hs
  simp [results, h, hp', hs', asAddr, run_loadVar_row w g 42 42 cs (0, 0) _ hg Tryd.underlying42 rfl hi]
set_option maxRecDepth 100000 in
theorem results_ct {fn : Func} {s p : Tmp} (h : fn.results = #[.cell p 42, .tmp s]) (tmps : Array Value) (w : World) (g : Nat) (cs : Array Value) (v : Value)
    (hs : tmps.getD s undef = v) (hp : tmps.getD p undef = .pointer (some ⟨g, 0, none⟩)) (hg : w.heap[g]? = some (.cells cs 42 (0, 0))) (hi : (Tryd.prog.info? 42).map (·.size) = some cs.size) :
    (results fn tmps).run Tryd.prog w = .ok (.tuple #[.agg cs, v]) w := by
  have hp' : tmps[p]?.getD undef = .pointer (some ⟨g, 0, none⟩) := by simpa using hp
  have hs' : tmps[s]?.getD undef = v := by simpa using hs
  simp [results, h, hp', hs', asAddr, run_loadVar_row w g 42 42 cs (0, 0) _ hg Tryd.underlying42 rfl hi]
set_option maxRecDepth 100000 in
theorem results_cct {fn : Func} {s p r : Tmp} (h : fn.results = #[.cell p 42, .cell r 42, .tmp s]) (tmps : Array Value) (w : World) (g k : Nat) (cs ds : Array Value) (v : Value)
    (hs : tmps.getD s undef = v) (hp : tmps.getD p undef = .pointer (some ⟨g, 0, none⟩)) (hr : tmps.getD r undef = .pointer (some ⟨k, 0, none⟩)) (hg : w.heap[g]? = some (.cells cs 42 (0, 0))) (hi : (Tryd.prog.info? 42).map (·.size) = some cs.size)
    (hg2 : w.heap[k]? = some (.cells ds 42 (0, 0))) (hi2 : (Tryd.prog.info? 42).map (·.size) = some ds.size) :
    (results fn tmps).run Tryd.prog w = .ok (.tuple #[.agg cs, .agg ds, v]) w := by
  have hp' : tmps[p]?.getD undef = .pointer (some ⟨g, 0, none⟩) := by simpa using hp
  have hr' : tmps[r]?.getD undef = .pointer (some ⟨k, 0, none⟩) := by simpa using hr
  have hs' : tmps[s]?.getD undef = v := by simpa using hs
  simp [results, h, hp', hr', hs', asAddr, run_loadVar_row w g 42 42 cs (0, 0) _ hg Tryd.underlying42 rfl hi, run_loadVar_row w k 42 42 ds (0, 0) _ hg2 Tryd.underlying42 rfl hi2]
set_option maxRecDepth 100000 in
/-- a guarded load of a digest's variable -/
theorem wpList_load_guarded {ops : Array Oper} {rest : List Oper} {o : Oper} {a : Act} {w : World} {Q : Exit → Act → World → Prop} {b : Nat} {D : Array Value} (hw : Region.wanted o (yielded ops a.tmps) = true) (x : Operand) (ho : o.op = .load 42 x) (hx : a.eval x = .pointer (some ⟨b, 0, none⟩))
    (hr : w.heap[b]? = some (.cells D 42 (0, 0))) (hi : (Tryd.prog.info? 42).map (·.size) = some D.size) (h : wpList Tryd.prog ops Q rest (a.put o.dst (.agg D)) w) : wpList Tryd.prog ops Q (o :: rest) a w :=
  wpList_step fun K hK => by
    rw [if_pos hw]
    exact wp_load_mid 42 x ho b 0 hx D.toList _ (range_row hr) Tryd.underlying42 rfl (by rw [Array.length_toList]; exact hi) (hK _ _ h)
/-- nothing but what is new turns -/
structure CL (w wr : World) : Prop where
  low : Below w.heap.size w wr

set_option maxRecDepth 100000 in
set_option maxHeartbeats 1000000 in
theorem cutlast_any (a : Option Addr) (len cap : Nat) (L : List (List Int)) (w : World) (hL : Dgs w a len cap L) (h1 : 1 ≤ len) :
    Calls Tryd.prog 78 #[.slice a len cap] w fun e w' => e = .returned (.tuple #[.slice a (len - 1) cap, .agg (bv (L.getD (len - 1) [])).toArray]) ∧ Below w.heap.size w w' := by
  have hlen := hL.len_eq
  have hcap := hL.le_cap
  have hcm := hL.cap_le
  unfold maxLen at hcm
  obtain ⟨b, off, rfl, hlt, hcc⟩ := hL.spot (by omega)
  have hb0 : Below w.heap.size w (w.alloc (.cells #[.int .u8 0, .int .u8 0, .int .u8 0, .int .u8 0, .int .u8 0, .int .u8 0, .int .u8 0, .int .u8 0, .int .u8 0, .int .u8 0, .int .u8 0, .int .u8 0, .int .u8 0, .int .u8 0, .int .u8 0, .int .u8 0, .int .u8 0, .int .u8 0, .int .u8 0, .int .u8 0, .int .u8 0, .int .u8 0, .int .u8 0, .int .u8 0, .int .u8 0, .int .u8 0, .int .u8 0, .int .u8 0, .int .u8 0, .int .u8 0, .int .u8 0, .int .u8 0] 42)) := (Below.refl _ _).alloc (Nat.le_refl _) _
  have hres0 : (w.alloc (.cells #[.int .u8 0, .int .u8 0, .int .u8 0, .int .u8 0, .int .u8 0, .int .u8 0, .int .u8 0, .int .u8 0, .int .u8 0, .int .u8 0, .int .u8 0, .int .u8 0, .int .u8 0, .int .u8 0, .int .u8 0, .int .u8 0, .int .u8 0, .int .u8 0, .int .u8 0, .int .u8 0, .int .u8 0, .int .u8 0, .int .u8 0, .int .u8 0, .int .u8 0, .int .u8 0, .int .u8 0, .int .u8 0, .int .u8 0, .int .u8 0, .int .u8 0, .int .u8 0] 42)).heap[w.heap.size]? = some (.cells #[.int .u8 0, .int .u8 0, .int .u8 0, .int .u8 0, .int .u8 0, .int .u8 0, .int .u8 0, .int .u8 0, .int .u8 0, .int .u8 0, .int .u8 0, .int .u8 0, .int .u8 0, .int .u8 0, .int .u8 0, .int .u8 0, .int .u8 0, .int .u8 0, .int .u8 0, .int .u8 0, .int .u8 0, .int .u8 0, .int .u8 0, .int .u8 0, .int .u8 0, .int .u8 0, .int .u8 0, .int .u8 0, .int .u8 0, .int .u8 0, .int .u8 0, .int .u8 0] 42 (0, 0)) := heap_alloc_new _ _
  have hr := range_below (hcc (len - 1) (by omega)) hb0 hlt
  have hD := hL.dig.getD (len - 1) (by omega)
  have hdi : (Tryd.prog.info? 42).map (·.size) = some (bv (L.getD (len - 1) [])).length := by rw [bv_length, hD.1]; exact dig_info
  generalize L.getD (len - 1) [] = D at hr hD hdi ⊢
  obtain ⟨HTH, HI2, HO2, HST, HBS⟩ := res_end (w := w) (B := w.heap.size) (Z := D) hres0 rfl hb0 (Nat.le_refl _) hD.1 (bv D).toArray rfl
  obtain ⟨k, hk⟩ : ∃ k, k = len - 1 := ⟨_, rfl⟩
  rw [← hk, Nat.mul_comm 32 k] at hr
  rw [← hk]
  have e1 : (len : Int) - 1 = (k : Int) := by omega
  have hsl := dgs_cut b off len cap k (by omega)
  have hkl : (k : Int) < (len : Int) := by omega
  have hr2 : (w.alloc (.cells #[.int .u8 0, .int .u8 0, .int .u8 0, .int .u8 0, .int .u8 0, .int .u8 0, .int .u8 0, .int .u8 0, .int .u8 0, .int .u8 0, .int .u8 0, .int .u8 0, .int .u8 0, .int .u8 0, .int .u8 0, .int .u8 0, .int .u8 0, .int .u8 0, .int .u8 0, .int .u8 0, .int .u8 0, .int .u8 0, .int .u8 0, .int .u8 0, .int .u8 0, .int .u8 0, .int .u8 0, .int .u8 0, .int .u8 0, .int .u8 0, .int .u8 0, .int .u8 0] 42)).drew.rangeAt b (off + k * 32) (bv D) := hr
  have HK2 : Bx (((w.alloc (.cells #[.int .u8 0, .int .u8 0, .int .u8 0, .int .u8 0, .int .u8 0, .int .u8 0, .int .u8 0, .int .u8 0, .int .u8 0, .int .u8 0, .int .u8 0, .int .u8 0, .int .u8 0, .int .u8 0, .int .u8 0, .int .u8 0, .int .u8 0, .int .u8 0, .int .u8 0, .int .u8 0, .int .u8 0, .int .u8 0, .int .u8 0, .int .u8 0, .int .u8 0, .int .u8 0, .int .u8 0, .int .u8 0, .int .u8 0, .int .u8 0, .int .u8 0, .int .u8 0] 42)).drew.setCells w.heap.size 0 (bv D).toArray.toList).rangeAt b (off + k * 32) (bv D) ∧ CL w ((w.alloc (.cells #[.int .u8 0, .int .u8 0, .int .u8 0, .int .u8 0, .int .u8 0, .int .u8 0, .int .u8 0, .int .u8 0, .int .u8 0, .int .u8 0, .int .u8 0, .int .u8 0, .int .u8 0, .int .u8 0, .int .u8 0, .int .u8 0, .int .u8 0, .int .u8 0, .int .u8 0, .int .u8 0, .int .u8 0, .int .u8 0, .int .u8 0, .int .u8 0, .int .u8 0, .int .u8 0, .int .u8 0, .int .u8 0, .int .u8 0, .int .u8 0, .int .u8 0, .int .u8 0] 42)).drew.setCells w.heap.size 0 (bv D).toArray.toList)) := by
    have hbut : But w.heap.size (w.alloc (.cells #[.int .u8 0, .int .u8 0, .int .u8 0, .int .u8 0, .int .u8 0, .int .u8 0, .int .u8 0, .int .u8 0, .int .u8 0, .int .u8 0, .int .u8 0, .int .u8 0, .int .u8 0, .int .u8 0, .int .u8 0, .int .u8 0, .int .u8 0, .int .u8 0, .int .u8 0, .int .u8 0, .int .u8 0, .int .u8 0, .int .u8 0, .int .u8 0, .int .u8 0, .int .u8 0, .int .u8 0, .int .u8 0, .int .u8 0, .int .u8 0, .int .u8 0, .int .u8 0] 42)).drew ((w.alloc (.cells #[.int .u8 0, .int .u8 0, .int .u8 0, .int .u8 0, .int .u8 0, .int .u8 0, .int .u8 0, .int .u8 0, .int .u8 0, .int .u8 0, .int .u8 0, .int .u8 0, .int .u8 0, .int .u8 0, .int .u8 0, .int .u8 0, .int .u8 0, .int .u8 0, .int .u8 0, .int .u8 0, .int .u8 0, .int .u8 0, .int .u8 0, .int .u8 0, .int .u8 0, .int .u8 0, .int .u8 0, .int .u8 0, .int .u8 0, .int .u8 0, .int .u8 0, .int .u8 0] 42)).drew.setCells w.heap.size 0 (bv D).toArray.toList) := (But.refl _ _).setCells _ _
    have hb1 : Below w.heap.size w (w.alloc (.cells #[.int .u8 0, .int .u8 0, .int .u8 0, .int .u8 0, .int .u8 0, .int .u8 0, .int .u8 0, .int .u8 0, .int .u8 0, .int .u8 0, .int .u8 0, .int .u8 0, .int .u8 0, .int .u8 0, .int .u8 0, .int .u8 0, .int .u8 0, .int .u8 0, .int .u8 0, .int .u8 0, .int .u8 0, .int .u8 0, .int .u8 0, .int .u8 0, .int .u8 0, .int .u8 0, .int .u8 0, .int .u8 0, .int .u8 0, .int .u8 0, .int .u8 0, .int .u8 0] 42)).drew := below_drewN hb0 1
    refine ⟨fun j v hj => (World.cell?_of_block (hbut.block b ?_ (by omega))).trans (hr2 j v hj), ⟨below_setCells hb1 _ (Nat.le_refl _) _ _⟩⟩
    show b < (w.alloc (.cells #[.int .u8 0, .int .u8 0, .int .u8 0, .int .u8 0, .int .u8 0, .int .u8 0, .int .u8 0, .int .u8 0, .int .u8 0, .int .u8 0, .int .u8 0, .int .u8 0, .int .u8 0, .int .u8 0, .int .u8 0, .int .u8 0, .int .u8 0, .int .u8 0, .int .u8 0, .int .u8 0, .int .u8 0, .int .u8 0, .int .u8 0, .int .u8 0, .int .u8 0, .int .u8 0, .int .u8 0, .int .u8 0, .int .u8 0, .int .u8 0, .int .u8 0, .int .u8 0] 42)).heap.size
    simp; omega
  have HS2 : Bx (((w.alloc (.cells #[.int .u8 0, .int .u8 0, .int .u8 0, .int .u8 0, .int .u8 0, .int .u8 0, .int .u8 0, .int .u8 0, .int .u8 0, .int .u8 0, .int .u8 0, .int .u8 0, .int .u8 0, .int .u8 0, .int .u8 0, .int .u8 0, .int .u8 0, .int .u8 0, .int .u8 0, .int .u8 0, .int .u8 0, .int .u8 0, .int .u8 0, .int .u8 0, .int .u8 0, .int .u8 0, .int .u8 0, .int .u8 0, .int .u8 0, .int .u8 0, .int .u8 0, .int .u8 0] 42)).drew.setCells w.heap.size 0 (bv D).toArray.toList).heap[w.heap.size]? = some (.cells (bv D).toArray 42 (0, 0))) := ⟨heap_stored (vs := (bv D).toArray) (w := (w.alloc (.cells #[.int .u8 0, .int .u8 0, .int .u8 0, .int .u8 0, .int .u8 0, .int .u8 0, .int .u8 0, .int .u8 0, .int .u8 0, .int .u8 0, .int .u8 0, .int .u8 0, .int .u8 0, .int .u8 0, .int .u8 0, .int .u8 0, .int .u8 0, .int .u8 0, .int .u8 0, .int .u8 0, .int .u8 0, .int .u8 0, .int .u8 0, .int .u8 0, .int .u8 0, .int .u8 0, .int .u8 0, .int .u8 0, .int .u8 0, .int .u8 0, .int .u8 0, .int .u8 0] 42)).drew) hres0 (by rw [List.size_toArray, bv_length, hD.1]; rfl)⟩
  have HKL : Hid (k = len - 1) := hk
  clear hres0 hcc hL hD hlen HST HBS hk
  go_enter Tryd.func78, Tryd.ntmps78
  go_wp2_with fail
  have hk : (w.alloc (.cells #[.int .u8 0, .int .u8 0, .int .u8 0, .int .u8 0, .int .u8 0, .int .u8 0, .int .u8 0, .int .u8 0, .int .u8 0, .int .u8 0, .int .u8 0, .int .u8 0, .int .u8 0, .int .u8 0, .int .u8 0, .int .u8 0, .int .u8 0, .int .u8 0, .int .u8 0, .int .u8 0, .int .u8 0, .int .u8 0, .int .u8 0, .int .u8 0, .int .u8 0, .int .u8 0, .int .u8 0, .int .u8 0, .int .u8 0, .int .u8 0, .int .u8 0, .int .u8 0] 42)).drew.rangeAt b (off + k * 32) (bv D) ∧ CL w (w.alloc (.cells #[.int .u8 0, .int .u8 0, .int .u8 0, .int .u8 0, .int .u8 0, .int .u8 0, .int .u8 0, .int .u8 0, .int .u8 0, .int .u8 0, .int .u8 0, .int .u8 0, .int .u8 0, .int .u8 0, .int .u8 0, .int .u8 0, .int .u8 0, .int .u8 0, .int .u8 0, .int .u8 0, .int .u8 0, .int .u8 0, .int .u8 0, .int .u8 0, .int .u8 0, .int .u8 0, .int .u8 0, .int .u8 0, .int .u8 0, .int .u8 0, .int .u8 0, .int .u8 0] 42)).drew := ⟨hr2, ⟨below_drewN hb0 1⟩⟩
  refine wp_region_held_drew (S := fun W => W.rangeAt b (off + k * 32) (bv D) ∧ CL w W) (by kernel_rfl) hk (fun _ => ?_)
  refine wpAnyH_take (i := 0) (oi := { dst := some 8, op := Op.move (Operand.tmp 0), type := 30, pos := "merkle.go:162", after := #[], guard := none }) (v := ?vcutlast1) rfl (by kernel_rfl) (by kernel_rfl) (by kernel_rfl) (fun _ _ _ h => h) (Or.inl ⟨by rfl, ?ycutlast1⟩) hk ?rcutlast1
  case ycutlast1 => (intro w hSw; (try dsimp only at hSw); go_simp; first | done | with_reducible rfl)
  simp only [Act.put, List.setIfInBounds_toArray, List.set_cons_zero, List.set_cons_succ]
  refine wpAnyH_take (i := 1) (oi := { dst := some 9, op := Op.move (Operand.tmp 4), type := 3, pos := "merkle.go:162", after := #[], guard := none }) (v := ?vcutlast2) rfl (by kernel_rfl) (by kernel_rfl) (by kernel_rfl) (fun _ _ _ h => h) (Or.inl ⟨by rfl, ?ycutlast2⟩) hk ?rcutlast2
  case ycutlast2 => (intro w hSw; (try dsimp only at hSw); go_simp; first | done | with_reducible rfl)
  simp only [Act.put, List.setIfInBounds_toArray, List.set_cons_zero, List.set_cons_succ]
  refine wpAnyH_take (i := 2) (oi := { dst := some 10, op := Op.slice 30 (Operand.tmp 8) none (some (Operand.tmp 9)) none, type := 30, pos := "merkle.go:162", after := #[{ on := 0, ground := Ground.data }, { on := 1, ground := Ground.data }], guard := none }) (v := ?vcutlast3) rfl (by kernel_rfl) (by kernel_rfl) (by kernel_rfl) (fun _ _ _ h => h) (Or.inl ⟨by rfl, ?ycutlast3⟩) hk ?rcutlast3
  case ycutlast3 => (intro w hSw; (try dsimp only at hSw); go_simp; first | done | with_reducible rfl)
  simp only [Act.put, List.setIfInBounds_toArray, List.set_cons_zero, List.set_cons_succ]
  refine wpAnyH_take (i := 3) (oi := { dst := some 11, op := Op.move (Operand.tmp 0), type := 30, pos := "merkle.go:162", after := #[{ on := 7, ground := Ground.gcOnly Departure.lateStores }], guard := none }) (v := ?vcutlast4) rfl (by kernel_rfl) (by kernel_rfl) (by kernel_rfl) (fun _ _ _ h => h) (Or.inl ⟨by rfl, ?ycutlast4⟩) hk ?rcutlast4
  case ycutlast4 => (intro w hSw; (try dsimp only at hSw); go_simp; first | done | with_reducible rfl)
  simp only [Act.put, List.setIfInBounds_toArray, List.set_cons_zero, List.set_cons_succ]
  refine wpAnyH_take (i := 4) (oi := { dst := some 12, op := Op.move (Operand.tmp 4), type := 3, pos := "merkle.go:162", after := #[{ on := 7, ground := Ground.gcOnly Departure.lateStores }], guard := none }) (v := ?vcutlast5) rfl (by kernel_rfl) (by kernel_rfl) (by kernel_rfl) (fun _ _ _ h => h) (Or.inl ⟨by rfl, ?ycutlast5⟩) hk ?rcutlast5
  case ycutlast5 => (intro w hSw; (try dsimp only at hSw); go_simp; first | done | with_reducible rfl)
  simp only [Act.put, List.setIfInBounds_toArray, List.set_cons_zero, List.set_cons_succ]
  refine wpAnyH_take (i := 5) (oi := { dst := some 13, op := Op.indexAddr 30 (Operand.tmp 11) (Operand.tmp 12), type := 0, pos := "merkle.go:162", after := #[{ on := 3, ground := Ground.data }, { on := 4, ground := Ground.data }, { on := 7, ground := Ground.gcOnly Departure.lateStores }], guard := none }) (v := ?vcutlast6) rfl (by kernel_rfl) (by kernel_rfl) (by kernel_rfl) (fun _ _ _ h => h) (Or.inl ⟨by rfl, ?ycutlast6⟩) hk ?rcutlast6
  case ycutlast6 => (intro w hSw; (try dsimp only at hSw); go_simp; first | done | with_reducible rfl)
  simp only [Act.put, List.setIfInBounds_toArray, List.set_cons_zero, List.set_cons_succ]
  refine wpAnyH_take (i := 6) (oi := { dst := some 14, op := Op.load 42 (Operand.tmp 13), type := 42, pos := "merkle.go:162", after := #[{ on := 5, ground := Ground.data }, { on := 7, ground := Ground.gcOnly Departure.lateStores }], guard := none }) (v := .agg (bv D).toArray) rfl (by kernel_rfl) (by kernel_rfl) (by kernel_rfl) (fun _ _ _ h => h) (yieldsIf_load_mid (by rfl) 42 (.tmp 13) rfl b (off + k * 32) rfl (bv D) _ (fun w h => h.1) Tryd.underlying42 rfl hdi) hk ?_
  simp only [Act.put, List.setIfInBounds_toArray, List.set_cons_zero, List.set_cons_succ]
  refine wpAnyH_take (i := 7) (oi := { dst := some 2, op := Op.assign (Operand.tmp 10), type := 30, pos := "merkle.go:162", after := #[{ on := 2, ground := Ground.data }, { on := 0, ground := Ground.phase }, { on := 1, ground := Ground.phase }, { on := 2, ground := Ground.phase }, { on := 3, ground := Ground.textOnly Departure.lateStores }, { on := 4, ground := Ground.textOnly Departure.lateStores }, { on := 5, ground := Ground.textOnly Departure.lateStores }, { on := 6, ground := Ground.textOnly Departure.lateStores }], guard := none }) (v := ?vcutlast7) rfl (by kernel_rfl) (by kernel_rfl) (by kernel_rfl) (fun _ _ _ h => h) (Or.inl ⟨by rfl, ?ycutlast7⟩) hk ?rcutlast7
  case ycutlast7 => (intro w hSw; (try dsimp only at hSw); go_simp; first | done | with_reducible rfl)
  simp only [Act.put, List.setIfInBounds_toArray, List.set_cons_zero, List.set_cons_succ]
  refine wpAnyH_ready (rs := [8]) (by decide +kernel) (by simp) ?_
  refine AllReadyH.cons (o := { dst := none, op := Op.store 42 (Operand.tmp 3) (Operand.tmp 14), type := 0, pos := "merkle.go:162", after := #[{ on := 6, ground := Ground.data }, { on := 7, ground := Ground.chain }, { on := 0, ground := Ground.phase }, { on := 1, ground := Ground.phase }, { on := 2, ground := Ground.phase }, { on := 3, ground := Ground.phase }, { on := 4, ground := Ground.phase }, { on := 5, ground := Ground.phase }, { on := 6, ground := Ground.phase }, { on := 7, ground := Ground.phase }], guard := none }) rfl (fun K hK => ?_) AllReadyH.nil
  rw [if_pos (by rfl)]
  refine wp_store_mid 42 (.tmp 3) (.tmp 14) rfl w.heap.size 0 (bv D).toArray rfl rfl ?htcutlast8 HI2.out HO2.out ?_
  case htcutlast8 => exact HTH.out
  replace hk := HK2.out
  simp only [Act.put]
  refine hK.out _ _ hk (fun _ => ?_)
  clear hK K
  try simp only [Act.put, List.setIfInBounds_toArray, List.set_cons_zero, List.set_cons_succ]
  refine wpAnyH_done (by decide +kernel) ?_ _
  have hlow := hk.2.low
  clear hk hb0 hr hr2
  go_wp2
  exact bodyPost_ret (v := .tuple #[.slice (some ⟨b, off, none⟩) k cap, .agg (bv D).toArray]) (results_tc rfl _ _ w.heap.size (bv D).toArray _ rfl rfl HS2.out HI2.out) rfl ⟨rfl, hlow⟩
end Go.Proofs.YtfkloilbjfleeaaDoor
