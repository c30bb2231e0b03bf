/- The text of a change, the program's. -/
import Derived.Test.YtjnjokbdoendkabSEnc
namespace Go.Proofs.Ytjnjokbdoendkab
open Go.RowKit
set_option linter.unusedVariables false

set_option maxRecDepth 100000 in
theorem bts_one (w : World) (x : Int) (hx : 0 ≤ x ∧ x ≤ 255) : Bts (w.alloc (.cells #[.int .u8 x] 5)) (some ⟨w.heap.size, 0, none⟩) 1 1 [x] :=
  ⟨rfl, fun c hc => by simp at hc; rw [hc]; exact hx, Nat.le_refl _, by unfold maxLen; omega, (fun hh => by cases hh), fun _ => ⟨w.heap.size, 0, rfl, by simp, fun i hi => by
    obtain rfl : i = 0 := by omega
    simp⟩⟩
/-- a row that grows, beside the change in its variable -/
structure PCs (base : Nat) (w0 wk : World) (bx : Nat) (cs : Array Value) (V : Value) (n : Nat) (l : List Int) : Prop where
  low : Below base w0 wk
  box : wk.heap[bx]? = some (.cells cs 69 (0, 0))
  own : wk.ownsRow base 5 1 V n (bv l)
  ne : V.ownBlock ≠ some bx
  bs : base ≤ wk.heap.size
section
variable {base : Nat} {w0 wk w' : World} {bx : Nat} {cs : Array Value} {V V' : Value} {n n' : Nat} {l l' : List Int}
set_option maxRecDepth 100000 in
theorem PCs.below (h : PCs base w0 wk bx cs V n l) (hb : Below wk.heap.size wk w') : PCs base w0 w' bx cs V n l :=
  ⟨h.low.trans (hb.mono h.bs), (hb.block bx (Array.getElem?_eq_some_iff.1 h.box).1).trans h.box, owns_below h.own hb, h.ne, Nat.le_trans h.bs hb.size⟩
set_option maxRecDepth 100000 in
theorem PCs.app (h : PCs base w0 wk bx cs V n l) (hk : Kept (fun k => V.ownBlock = some k) wk w') (hl : Lies V V' wk.heap.size) (ho : w'.ownsRow base 5 1 V' n' (bv l')) : PCs base w0 w' bx cs V' n' l' :=
  ⟨h.low.trans (hk.low (fun k hk => (h.own.lt k hk).1) h.bs), (hk.block bx (Array.getElem?_eq_some_iff.1 h.box).1 h.ne).trans h.box, ho, fun e => by
    rcases hl _ e with h1 | h1
    · exact h.ne h1
    · have := (Array.getElem?_eq_some_iff.1 h.box).1; omega, Nat.le_trans h.bs hk.size⟩
set_option maxRecDepth 100000 in
theorem PCs.s {key : ByteArray} {d : Bool} {ai : Option Addr} {ni ci : Nat} (h : PCs base w0 wk bx #[.string key, .bool d, .slice ai ni ci] V n l) : wk.cell? ⟨bx, 0, none⟩ = some (.string key) ∧ wk.cell? ⟨bx, 2, none⟩ = some (.slice ai ni ci) :=
  ⟨by rw [cell_of_row wk bx 0 _ _ (0, 0) h.box]; rfl, by rw [cell_of_row wk bx 2 _ _ (0, 0) h.box]; rfl⟩
set_option maxRecDepth 100000 in
theorem PCs.new (h : PCs base w0 wk bx cs V n l) {m : Nat} : Apart V (some ⟨wk.heap.size, 0, none⟩) m := fun _ p e e2 => by
  have h1 := (h.own.lt _ e2).2
  cases e
  exact absurd h1 (Nat.lt_irrefl _)
end
set_option maxRecDepth 100000 in
theorem own_form {w : World} {base n k : Nat} {E : TypeId} {v : Value} {xs : List Value} (h : w.ownsRow base E k v n xs) : ∃ a0 n0 c0, v = .slice a0 n0 c0 := by
  rcases h.2 with ⟨rfl, _⟩ | ⟨g, cap, cur, rfl, _⟩
  · exact ⟨_, _, _, rfl⟩
  · exact ⟨_, _, _, rfl⟩
set_option maxRecDepth 100000 in
set_option maxHeartbeats 2000000 in
theorem putchange_any (base n : Nat) (V : Value) (l : List Int) (key : ByteArray) (del : Bool) (val : List Int) (ai : Option Addr) (ni ci : Nat) (w : World) (hown : w.ownsRow base 5 1 V n (bv l)) (hbt : Bts w ai ni ci val) (hlo : 0 < ni → ∀ p, ai = some p → p.block < base) (hbase : base ≤ w.heap.size) (h63 : n ≤ 1099511627776) (hni : ni ≤ 1099511627776) (hks : key.size ≤ 1099511627776) :
    Calls Try.prog 48 #[V, .agg #[.string key, .bool del, .slice ai ni ci]] w fun e w' => ∃ v', e = .returned v' ∧ w'.ownsRow base 5 1 v' (n + (chgL ⟨key, del, val⟩).length) (bv (l ++ chgL ⟨key, del, val⟩)) ∧ Below base w w' := by
  obtain ⟨a0, n0, c0, rfl⟩ : ∃ a0 n0 c0, V = .slice a0 n0 c0 := by
    rcases hown.2 with ⟨rfl, _⟩ | ⟨g, cap, cur, rfl, _⟩
    · exact ⟨_, _, _, rfl⟩
    · exact ⟨_, _, _, rfl⟩
  obtain ⟨bx, hbx⟩ : ∃ bx, bx = w.heap.size := ⟨_, rfl⟩
  have HP0 : Bx (∀ d2, d2 = del → PCs base w (w.alloc (.cells #[.string key, .bool d2, .slice ai ni ci] 69)).drew w.heap.size #[.string key, .bool d2, .slice ai ni ci] (.slice a0 n0 c0) n l) := ⟨fun d2 _ => ⟨((Below.refl _ _).alloc hbase _).drew, heap_alloc_new w _, hown.alloc _, fun e => by have := (hown.lt _ e).2; omega, by simp; omega⟩⟩
  have HV : Bx (∀ W, Below base w W → Bts W ai ni ci val ∧ ∀ v, (∀ g, v.ownBlock = some g → base ≤ g) → Apart v ai ni) := ⟨fun W hW => ⟨hbt.keep (fun hp p e => hW.block _ (hlo hp p e)) hW.size, fun v hv hp p e e2 => by have h1 := hv _ e2; have h2 := hlo hp p e; omega⟩⟩
  have hks2 : key.size ≤ maxLen := by unfold maxLen; omega
  have hvk := (varL_length key.size).2
  have hvl := hbt.len_eq
  obtain ⟨hks3, hks⟩ : key.size ≤ 1099511627776 ∧ key.size ≤ maxLen := ⟨hks, hks2⟩
  clear hks2
  generalize hVV : Value.slice a0 n0 c0 = V at HP0 ⊢
  cases del with
  | true =>
    have HR : Bx (chgL ⟨key, true, val⟩ = 1 :: (varL key.size ++ strL key)) := ⟨by simp [chgL]⟩
    have HP := Bx.mk (HP0.out true rfl)
    clear hown hbt hlo HP0
    subst hVV
    go_enter Try.func48, Try.ntmps48
    go_wp2_with fail
    rw [← hbx] at HP ⊢
    have hk := HP.out.s
    generalize w.alloc (.cells #[.string key, .bool true, .slice ai ni ci] 69) = w0 at hk HP ⊢
    generalize Value.slice a0 n0 c0 = V at HP ⊢
    clear hbx
    refine wp_region_held_drew (S := fun W => W.cell? ⟨bx, 0, none⟩ = some (.string key) ∧ W.cell? ⟨bx, 2, none⟩ = some (.slice ai ni ci)) (by kernel_rfl) hk (fun _ => ?_)
    generalize hwk : w0.drew = wk at hk HP ⊢
    clear hwk
    refine wpAnyH_take (i := 0) (oi := { dst := some 7, op := Op.move (Operand.tmp 0), type := 41, pos := "store.go:89", after := #[], guard := none }) (v := ?vpch21) rfl (by kernel_rfl) (by kernel_rfl) (by kernel_rfl) (fun _ _ _ h => h) (Or.inl ⟨by rfl, ?ypch21⟩) hk ?rpch21
    case ypch21 => (intro w hSw; (try dsimp only at hSw); go_simp; first | done | with_reducible rfl)
    simp only [Act.put, List.setIfInBounds_toArray, List.set_cons_zero, List.set_cons_succ]
    refine wpAnyH_take (i := 3) (oi := { dst := some 10, op := Op.fieldAddr 69 (Operand.tmp 3) 0, type := 0, pos := "store.go:89", after := #[], guard := none }) (v := ?vpch22) rfl (by kernel_rfl) (by kernel_rfl) (by kernel_rfl) (fun _ _ _ h => h) (Or.inl ⟨by rfl, ?ypch22⟩) hk ?rpch22
    case ypch22 => (intro w hSw; (try dsimp only at hSw); go_simp; first | done | with_reducible rfl)
    simp only [Act.put, List.setIfInBounds_toArray, List.set_cons_zero, List.set_cons_succ]
    refine wpAnyH_take (i := 4) (oi := { dst := some 11, op := Op.load 9 (Operand.tmp 10), type := 9, pos := "store.go:89", after := #[{ on := 3, ground := Ground.data }], guard := none }) (v := ?vpch23) rfl (by kernel_rfl) (by kernel_rfl) (by kernel_rfl) (fun _ _ _ h => h) (Or.inl ⟨by rfl, ?ypch23⟩) hk ?rpch23
    case ypch23 => (intro w hSw; have hcw := hSw.1; clear hSw; go_simp; first | done | with_reducible rfl)
    simp only [Act.put, List.setIfInBounds_toArray, List.set_cons_zero, List.set_cons_succ]
    refine wpAnyH_ready (rs := [1, 5]) (by decide +kernel) (by simp) ?_
    refine (AllReadyH.cons (o := { dst := some 8, op := Op.buildSlice 41 1 #[(0, Operand.const (Value.int IntKind.u8 1))], type := 41, pos := "store.go:89", after := #[], guard := none }) rfl (fun K hK => ?_) (AllReadyH.cons (o := { dst := some 12, op := Op.convert 9 41 (Operand.tmp 11), type := 41, pos := "store.go:89", after := #[{ on := 4, ground := Ground.data }], guard := none }) rfl (fun K hK => ?_) AllReadyH.nil))
    · go_simp
      have hbA : Below wk.heap.size wk (wk.alloc (.cells #[.int .u8 1] 5)) := (Below.refl _ _).alloc (Nat.le_refl _) _
      have HN : Bx (Bts (wk.alloc (.cells #[.int .u8 1] 5)) (some ⟨wk.heap.size, 0, none⟩) 1 1 [1]) := ⟨bts_one wk _ (by decide)⟩
      replace HP : Bx (PCs base w (wk.alloc (.cells #[.int .u8 1] 5)) bx #[.string key, .bool true, .slice ai ni ci] V n l) := ⟨HP.out.below hbA⟩
      try replace HM : Bx (Bts (wk.alloc (.cells #[.int .u8 1] 5)) (some ⟨G2, 0, none⟩) key.size cm (strL key) ∧ Apart V (some ⟨G2, 0, none⟩) key.size) := ⟨HM.out.1.below hbA, HM.out.2⟩
      clear hbA hk
      generalize wk.heap.size = G at HN ⊢
      first | generalize wk.alloc (.cells #[.int .u8 1] 5) = wk at HN HP HM ⊢ | generalize wk.alloc (.cells #[.int .u8 1] 5) = wk at HN HP ⊢
      have hk := HP.out.s
      refine hK.out _ _ hk (fun _ => ?_)
      clear hK K
      try simp only [Act.put, List.setIfInBounds_toArray, List.set_cons_zero, List.set_cons_succ]
      refine wpAnyH_ready (rs := [2, 5]) (by decide +kernel) (by simp) ?_
      refine (AllReadyH.cons (o := { dst := some 9, op := Op.call { callee := Callee.builtin Builtin.append, args := #[Operand.tmp 7, Operand.tmp 8], argTypes := #[41, 41] }, type := 41, pos := "store.go:89", after := #[{ on := 0, ground := Ground.data }, { on := 1, ground := Ground.data }], guard := none }) rfl (fun K hK => ?_) (AllReadyH.cons (o := { dst := some 12, op := Op.convert 9 41 (Operand.tmp 11), type := 41, pos := "store.go:89", after := #[{ on := 4, ground := Ground.data }], guard := none }) rfl (fun K hK => ?_) AllReadyH.nil))
      · refine step_append_btsL rfl (.tmp 7) (.tmp 8) rfl base n _ l rfl HP.out.own (some ⟨G, 0, none⟩) 1 1 [1] rfl HN.out (.inr (by omega)) (by omega) HP.out.bs ?_
        intro v6 w6 hown6 hk6 hl6
        replace HP : Bx (PCs base w w6 bx #[.string key, .bool true, .slice ai ni ci] v6 (n + 1) (l ++ [1])) := ⟨HP.out.app hk6 hl6 hown6⟩
        try replace HM : Bx (Bts w6 (some ⟨G2, 0, none⟩) key.size cm (strL key) ∧ Apart v6 (some ⟨G2, 0, none⟩) key.size) := ⟨HM.out.1.apart hk6 HM.out.2, HM.out.2.lies HM.out.1 hl6⟩
        clear hown6 hk6 hl6 HN hk
        obtain ⟨wk, hwk⟩ : ∃ x, x = w6 := ⟨_, rfl⟩
        subst hwk
        obtain ⟨V, hVV⟩ : ∃ x, x = v6 := ⟨_, rfl⟩
        subst hVV
        have hk := HP.out.s
        refine hK.out _ _ hk (fun _ => ?_)
        clear hK K
        try simp only [Act.put, List.setIfInBounds_toArray, List.set_cons_zero, List.set_cons_succ]
        refine wpAnyH_ready (rs := [5]) (by decide +kernel) (by simp) ?_
        refine AllReadyH.cons (o := { dst := some 12, op := Op.convert 9 41 (Operand.tmp 11), type := 41, pos := "store.go:89", after := #[{ on := 4, ground := Ground.data }], guard := none }) rfl (fun K hK => ?_) AllReadyH.nil
        rw [if_pos (by rfl)]
        obtain ⟨cm, wv, hcv, hbv, hbm⟩ := conv_bytes wk key hks
        go_simp
        have HM : Bx (Bts wv (some ⟨wk.heap.size, 0, none⟩) key.size cm (strL key) ∧ Apart (_) (some ⟨wk.heap.size, 0, none⟩) key.size) := ⟨hbm, HP.out.new⟩
        replace HP := Bx.mk (HP.out.below hbv)
        try replace HN := Bx.mk (HN.out.below hbv)
        clear hcv hbv hbm hk
        generalize wk.heap.size = G2 at HM ⊢
        obtain ⟨wk, hwk⟩ : ∃ x, x = wv := ⟨_, rfl⟩
        subst hwk
        have hk := HP.out.s
        refine hK.out _ _ hk (fun _ => ?_)
        clear hK K
        try simp only [Act.put, List.setIfInBounds_toArray, List.set_cons_zero, List.set_cons_succ]
        refine wpAnyH_ready (rs := [6]) (by decide +kernel) (by simp) ?_
        refine AllReadyH.cons (o := { dst := some 13, op := Op.call { callee := Callee.value (Operand.func 68), args := #[Operand.tmp 9, Operand.tmp 12], argTypes := #[41, 41] }, type := 41, pos := "store.go:89", after := #[{ on := 2, ground := Ground.data }, { on := 5, ground := Ground.data }, { on := 2, ground := Ground.chain }], guard := none }) rfl (fun K hK => ?_) AllReadyH.nil
        go_simp
        refine (putbytes_any base _ _ _ _ _ _ (strL key) _ HP.out.own HM.out.1 HM.out.2 HP.out.bs (by omega)).mono ?_
        rintro e7 w7 ⟨v7, rfl, hown7, hk7, hl7⟩
        replace HP := Bx.mk (HP.out.app hk7 hl7 hown7)
        clear hown7 hk7 hl7 HM hk
        have hk := HP.out.s
        refine hK.out _ _ hk (fun _ => ?_)
        clear hK K
        try simp only [Act.put, List.setIfInBounds_toArray, List.set_cons_zero, List.set_cons_succ]
        refine wpAnyH_take (i := 7) (oi := { dst := some 4, op := Op.assign (Operand.tmp 13), type := 41, pos := "store.go:89", after := #[{ on := 6, ground := Ground.data }, { on := 6, ground := Ground.chain }, { on := 0, ground := Ground.phase }, { on := 1, ground := Ground.phase }, { on := 2, ground := Ground.phase }, { on := 3, ground := Ground.phase }, { on := 4, ground := Ground.phase }, { on := 5, ground := Ground.phase }, { on := 6, ground := Ground.phase }], guard := none }) (v := ?vpch25) rfl (by kernel_rfl) (by kernel_rfl) (by kernel_rfl) (fun _ _ _ h => h) (Or.inl ⟨by rfl, ?ypch25⟩) hk ?rpch25
        case ypch25 => (intro w hSw; (try dsimp only at hSw); go_simp; first | done | with_reducible rfl)
        simp only [Act.put, List.setIfInBounds_toArray, List.set_cons_zero, List.set_cons_succ]
        refine wpAnyH_done (by decide +kernel) ?_ _
        have hfin : w7.ownsRow base 5 1 v7 (n + (chgL ⟨key, true, val⟩).length) (bv (l ++ chgL ⟨key, true, val⟩)) := by
          have e1 : n + (chgL ⟨key, true, val⟩).length = n + 1 + ((varL key.size).length + key.size) := by rw [HR.out, List.length_cons, List.length_append, strL_length]; omega
          have e2 : l ++ chgL ⟨key, true, val⟩ = l ++ [1] ++ (varL key.size ++ strL key) := by rw [HR.out]; simp
          rw [e1, e2]; exact HP.out.own
        have hlow := HP.out.low
        obtain ⟨a9, n9, c9, rfl⟩ := own_form HP.out.own
        clear HP hk
        go_wp2_with fail
        go_ret
        exact ⟨_, rfl, hfin, hlow⟩
      · rw [if_pos (by rfl)]
        obtain ⟨cm, wv, hcv, hbv, hbm⟩ := conv_bytes wk key hks
        go_simp
        have HM : Bx (Bts wv (some ⟨wk.heap.size, 0, none⟩) key.size cm (strL key) ∧ Apart (_) (some ⟨wk.heap.size, 0, none⟩) key.size) := ⟨hbm, HP.out.new⟩
        replace HP := Bx.mk (HP.out.below hbv)
        try replace HN := Bx.mk (HN.out.below hbv)
        clear hcv hbv hbm hk
        generalize wk.heap.size = G2 at HM ⊢
        obtain ⟨wk, hwk⟩ : ∃ x, x = wv := ⟨_, rfl⟩
        subst hwk
        have hk := HP.out.s
        refine hK.out _ _ hk (fun _ => ?_)
        clear hK K
        try simp only [Act.put, List.setIfInBounds_toArray, List.set_cons_zero, List.set_cons_succ]
        refine wpAnyH_ready (rs := [2]) (by decide +kernel) (by simp) ?_
        refine AllReadyH.cons (o := { dst := some 9, op := Op.call { callee := Callee.builtin Builtin.append, args := #[Operand.tmp 7, Operand.tmp 8], argTypes := #[41, 41] }, type := 41, pos := "store.go:89", after := #[{ on := 0, ground := Ground.data }, { on := 1, ground := Ground.data }], guard := none }) rfl (fun K hK => ?_) AllReadyH.nil
        refine step_append_btsL rfl (.tmp 7) (.tmp 8) rfl base n _ l rfl HP.out.own (some ⟨G, 0, none⟩) 1 1 [1] rfl HN.out (.inr (by omega)) (by omega) HP.out.bs ?_
        intro v6 w6 hown6 hk6 hl6
        replace HP : Bx (PCs base w w6 bx #[.string key, .bool true, .slice ai ni ci] v6 (n + 1) (l ++ [1])) := ⟨HP.out.app hk6 hl6 hown6⟩
        try replace HM : Bx (Bts w6 (some ⟨G2, 0, none⟩) key.size cm (strL key) ∧ Apart v6 (some ⟨G2, 0, none⟩) key.size) := ⟨HM.out.1.apart hk6 HM.out.2, HM.out.2.lies HM.out.1 hl6⟩
        clear hown6 hk6 hl6 HN hk
        obtain ⟨wk, hwk⟩ : ∃ x, x = w6 := ⟨_, rfl⟩
        subst hwk
        obtain ⟨V, hVV⟩ : ∃ x, x = v6 := ⟨_, rfl⟩
        subst hVV
        have hk := HP.out.s
        refine hK.out _ _ hk (fun _ => ?_)
        clear hK K
        try simp only [Act.put, List.setIfInBounds_toArray, List.set_cons_zero, List.set_cons_succ]
        refine wpAnyH_ready (rs := [6]) (by decide +kernel) (by simp) ?_
        refine AllReadyH.cons (o := { dst := some 13, op := Op.call { callee := Callee.value (Operand.func 68), args := #[Operand.tmp 9, Operand.tmp 12], argTypes := #[41, 41] }, type := 41, pos := "store.go:89", after := #[{ on := 2, ground := Ground.data }, { on := 5, ground := Ground.data }, { on := 2, ground := Ground.chain }], guard := none }) rfl (fun K hK => ?_) AllReadyH.nil
        go_simp
        refine (putbytes_any base _ _ _ _ _ _ (strL key) _ HP.out.own HM.out.1 HM.out.2 HP.out.bs (by omega)).mono ?_
        rintro e7 w7 ⟨v7, rfl, hown7, hk7, hl7⟩
        replace HP := Bx.mk (HP.out.app hk7 hl7 hown7)
        clear hown7 hk7 hl7 HM hk
        have hk := HP.out.s
        refine hK.out _ _ hk (fun _ => ?_)
        clear hK K
        try simp only [Act.put, List.setIfInBounds_toArray, List.set_cons_zero, List.set_cons_succ]
        refine wpAnyH_take (i := 7) (oi := { dst := some 4, op := Op.assign (Operand.tmp 13), type := 41, pos := "store.go:89", after := #[{ on := 6, ground := Ground.data }, { on := 6, ground := Ground.chain }, { on := 0, ground := Ground.phase }, { on := 1, ground := Ground.phase }, { on := 2, ground := Ground.phase }, { on := 3, ground := Ground.phase }, { on := 4, ground := Ground.phase }, { on := 5, ground := Ground.phase }, { on := 6, ground := Ground.phase }], guard := none }) (v := ?vpch27) rfl (by kernel_rfl) (by kernel_rfl) (by kernel_rfl) (fun _ _ _ h => h) (Or.inl ⟨by rfl, ?ypch27⟩) hk ?rpch27
        case ypch27 => (intro w hSw; (try dsimp only at hSw); go_simp; first | done | with_reducible rfl)
        simp only [Act.put, List.setIfInBounds_toArray, List.set_cons_zero, List.set_cons_succ]
        refine wpAnyH_done (by decide +kernel) ?_ _
        have hfin : w7.ownsRow base 5 1 v7 (n + (chgL ⟨key, true, val⟩).length) (bv (l ++ chgL ⟨key, true, val⟩)) := by
          have e1 : n + (chgL ⟨key, true, val⟩).length = n + 1 + ((varL key.size).length + key.size) := by rw [HR.out, List.length_cons, List.length_append, strL_length]; omega
          have e2 : l ++ chgL ⟨key, true, val⟩ = l ++ [1] ++ (varL key.size ++ strL key) := by rw [HR.out]; simp
          rw [e1, e2]; exact HP.out.own
        have hlow := HP.out.low
        obtain ⟨a9, n9, c9, rfl⟩ := own_form HP.out.own
        clear HP hk
        go_wp2_with fail
        go_ret
        exact ⟨_, rfl, hfin, hlow⟩
    · rw [if_pos (by rfl)]
      obtain ⟨cm, wv, hcv, hbv, hbm⟩ := conv_bytes wk key hks
      go_simp
      have HM : Bx (Bts wv (some ⟨wk.heap.size, 0, none⟩) key.size cm (strL key) ∧ Apart (_) (some ⟨wk.heap.size, 0, none⟩) key.size) := ⟨hbm, HP.out.new⟩
      replace HP := Bx.mk (HP.out.below hbv)
      try replace HN := Bx.mk (HN.out.below hbv)
      clear hcv hbv hbm hk
      generalize wk.heap.size = G2 at HM ⊢
      obtain ⟨wk, hwk⟩ : ∃ x, x = wv := ⟨_, rfl⟩
      subst hwk
      have hk := HP.out.s
      refine hK.out _ _ hk (fun _ => ?_)
      clear hK K
      try simp only [Act.put, List.setIfInBounds_toArray, List.set_cons_zero, List.set_cons_succ]
      refine wpAnyH_ready (rs := [1]) (by decide +kernel) (by simp) ?_
      refine AllReadyH.cons (o := { dst := some 8, op := Op.buildSlice 41 1 #[(0, Operand.const (Value.int IntKind.u8 1))], type := 41, pos := "store.go:89", after := #[], guard := none }) rfl (fun K hK => ?_) AllReadyH.nil
      go_simp
      have hbA : Below wk.heap.size wk (wk.alloc (.cells #[.int .u8 1] 5)) := (Below.refl _ _).alloc (Nat.le_refl _) _
      have HN : Bx (Bts (wk.alloc (.cells #[.int .u8 1] 5)) (some ⟨wk.heap.size, 0, none⟩) 1 1 [1]) := ⟨bts_one wk _ (by decide)⟩
      replace HP : Bx (PCs base w (wk.alloc (.cells #[.int .u8 1] 5)) bx #[.string key, .bool true, .slice ai ni ci] V n l) := ⟨HP.out.below hbA⟩
      try replace HM : Bx (Bts (wk.alloc (.cells #[.int .u8 1] 5)) (some ⟨G2, 0, none⟩) key.size cm (strL key) ∧ Apart V (some ⟨G2, 0, none⟩) key.size) := ⟨HM.out.1.below hbA, HM.out.2⟩
      clear hbA hk
      generalize wk.heap.size = G at HN ⊢
      first | generalize wk.alloc (.cells #[.int .u8 1] 5) = wk at HN HP HM ⊢ | generalize wk.alloc (.cells #[.int .u8 1] 5) = wk at HN HP ⊢
      have hk := HP.out.s
      refine hK.out _ _ hk (fun _ => ?_)
      clear hK K
      try simp only [Act.put, List.setIfInBounds_toArray, List.set_cons_zero, List.set_cons_succ]
      refine wpAnyH_ready (rs := [2]) (by decide +kernel) (by simp) ?_
      refine AllReadyH.cons (o := { dst := some 9, op := Op.call { callee := Callee.builtin Builtin.append, args := #[Operand.tmp 7, Operand.tmp 8], argTypes := #[41, 41] }, type := 41, pos := "store.go:89", after := #[{ on := 0, ground := Ground.data }, { on := 1, ground := Ground.data }], guard := none }) rfl (fun K hK => ?_) AllReadyH.nil
      refine step_append_btsL rfl (.tmp 7) (.tmp 8) rfl base n _ l rfl HP.out.own (some ⟨G, 0, none⟩) 1 1 [1] rfl HN.out (.inr (by omega)) (by omega) HP.out.bs ?_
      intro v6 w6 hown6 hk6 hl6
      replace HP : Bx (PCs base w w6 bx #[.string key, .bool true, .slice ai ni ci] v6 (n + 1) (l ++ [1])) := ⟨HP.out.app hk6 hl6 hown6⟩
      try replace HM : Bx (Bts w6 (some ⟨G2, 0, none⟩) key.size cm (strL key) ∧ Apart v6 (some ⟨G2, 0, none⟩) key.size) := ⟨HM.out.1.apart hk6 HM.out.2, HM.out.2.lies HM.out.1 hl6⟩
      clear hown6 hk6 hl6 HN hk
      obtain ⟨wk, hwk⟩ : ∃ x, x = w6 := ⟨_, rfl⟩
      subst hwk
      obtain ⟨V, hVV⟩ : ∃ x, x = v6 := ⟨_, rfl⟩
      subst hVV
      have hk := HP.out.s
      refine hK.out _ _ hk (fun _ => ?_)
      clear hK K
      try simp only [Act.put, List.setIfInBounds_toArray, List.set_cons_zero, List.set_cons_succ]
      refine wpAnyH_ready (rs := [6]) (by decide +kernel) (by simp) ?_
      refine AllReadyH.cons (o := { dst := some 13, op := Op.call { callee := Callee.value (Operand.func 68), args := #[Operand.tmp 9, Operand.tmp 12], argTypes := #[41, 41] }, type := 41, pos := "store.go:89", after := #[{ on := 2, ground := Ground.data }, { on := 5, ground := Ground.data }, { on := 2, ground := Ground.chain }], guard := none }) rfl (fun K hK => ?_) AllReadyH.nil
      go_simp
      refine (putbytes_any base _ _ _ _ _ _ (strL key) _ HP.out.own HM.out.1 HM.out.2 HP.out.bs (by omega)).mono ?_
      rintro e7 w7 ⟨v7, rfl, hown7, hk7, hl7⟩
      replace HP := Bx.mk (HP.out.app hk7 hl7 hown7)
      clear hown7 hk7 hl7 HM hk
      have hk := HP.out.s
      refine hK.out _ _ hk (fun _ => ?_)
      clear hK K
      try simp only [Act.put, List.setIfInBounds_toArray, List.set_cons_zero, List.set_cons_succ]
      refine wpAnyH_take (i := 7) (oi := { dst := some 4, op := Op.assign (Operand.tmp 13), type := 41, pos := "store.go:89", after := #[{ on := 6, ground := Ground.data }, { on := 6, ground := Ground.chain }, { on := 0, ground := Ground.phase }, { on := 1, ground := Ground.phase }, { on := 2, ground := Ground.phase }, { on := 3, ground := Ground.phase }, { on := 4, ground := Ground.phase }, { on := 5, ground := Ground.phase }, { on := 6, ground := Ground.phase }], guard := none }) (v := ?vpch29) rfl (by kernel_rfl) (by kernel_rfl) (by kernel_rfl) (fun _ _ _ h => h) (Or.inl ⟨by rfl, ?ypch29⟩) hk ?rpch29
      case ypch29 => (intro w hSw; (try dsimp only at hSw); go_simp; first | done | with_reducible rfl)
      simp only [Act.put, List.setIfInBounds_toArray, List.set_cons_zero, List.set_cons_succ]
      refine wpAnyH_done (by decide +kernel) ?_ _
      have hfin : w7.ownsRow base 5 1 v7 (n + (chgL ⟨key, true, val⟩).length) (bv (l ++ chgL ⟨key, true, val⟩)) := by
        have e1 : n + (chgL ⟨key, true, val⟩).length = n + 1 + ((varL key.size).length + key.size) := by rw [HR.out, List.length_cons, List.length_append, strL_length]; omega
        have e2 : l ++ chgL ⟨key, true, val⟩ = l ++ [1] ++ (varL key.size ++ strL key) := by rw [HR.out]; simp
        rw [e1, e2]; exact HP.out.own
      have hlow := HP.out.low
      obtain ⟨a9, n9, c9, rfl⟩ := own_form HP.out.own
      clear HP hk
      go_wp2_with fail
      go_ret
      exact ⟨_, rfl, hfin, hlow⟩
  | false =>
    have HR : Bx (chgL ⟨key, false, val⟩ = 0 :: (varL key.size ++ (strL key ++ (varL ni ++ val)))) := ⟨by rw [← hvl]; simp [chgL]⟩
    have HP := Bx.mk (HP0.out false rfl)
    have hvn := (varL_length ni).2
    clear hown hbt hlo HP0
    subst hVV
    go_enter Try.func48, Try.ntmps48
    go_wp2_with fail
    rw [← hbx] at HP ⊢
    have hk := HP.out.s
    generalize w.alloc (.cells #[.string key, .bool false, .slice ai ni ci] 69) = w0 at hk HP ⊢
    generalize Value.slice a0 n0 c0 = V at HP ⊢
    clear hbx
    refine wp_region_held_drew (S := fun W => W.cell? ⟨bx, 0, none⟩ = some (.string key) ∧ W.cell? ⟨bx, 2, none⟩ = some (.slice ai ni ci)) (by kernel_rfl) hk (fun _ => ?_)
    generalize hwk : w0.drew = wk at hk HP ⊢
    clear hwk
    refine wpAnyH_take (i := 0) (oi := { dst := some 14, op := Op.move (Operand.tmp 0), type := 41, pos := "store.go:91", after := #[], guard := none }) (v := ?vpch31) rfl (by kernel_rfl) (by kernel_rfl) (by kernel_rfl) (fun _ _ _ h => h) (Or.inl ⟨by rfl, ?ypch31⟩) hk ?rpch31
    case ypch31 => (intro w hSw; (try dsimp only at hSw); go_simp; first | done | with_reducible rfl)
    simp only [Act.put, List.setIfInBounds_toArray, List.set_cons_zero, List.set_cons_succ]
    refine wpAnyH_take (i := 3) (oi := { dst := some 17, op := Op.fieldAddr 69 (Operand.tmp 3) 0, type := 0, pos := "store.go:91", after := #[], guard := none }) (v := ?vpch32) rfl (by kernel_rfl) (by kernel_rfl) (by kernel_rfl) (fun _ _ _ h => h) (Or.inl ⟨by rfl, ?ypch32⟩) hk ?rpch32
    case ypch32 => (intro w hSw; (try dsimp only at hSw); go_simp; first | done | with_reducible rfl)
    simp only [Act.put, List.setIfInBounds_toArray, List.set_cons_zero, List.set_cons_succ]
    refine wpAnyH_take (i := 4) (oi := { dst := some 18, op := Op.load 9 (Operand.tmp 17), type := 9, pos := "store.go:91", after := #[{ on := 3, ground := Ground.data }], guard := none }) (v := ?vpch33) rfl (by kernel_rfl) (by kernel_rfl) (by kernel_rfl) (fun _ _ _ h => h) (Or.inl ⟨by rfl, ?ypch33⟩) hk ?rpch33
    case ypch33 => (intro w hSw; have hcw := hSw.1; clear hSw; go_simp; first | done | with_reducible rfl)
    simp only [Act.put, List.setIfInBounds_toArray, List.set_cons_zero, List.set_cons_succ]
    refine wpAnyH_take (i := 7) (oi := { dst := some 21, op := Op.fieldAddr 69 (Operand.tmp 3) 2, type := 0, pos := "store.go:91", after := #[], guard := none }) (v := ?vpch34) rfl (by kernel_rfl) (by kernel_rfl) (by kernel_rfl) (fun _ _ _ h => h) (Or.inl ⟨by rfl, ?ypch34⟩) hk ?rpch34
    case ypch34 => (intro w hSw; (try dsimp only at hSw); go_simp; first | done | with_reducible rfl)
    simp only [Act.put, List.setIfInBounds_toArray, List.set_cons_zero, List.set_cons_succ]
    refine wpAnyH_take (i := 8) (oi := { dst := some 22, op := Op.load 41 (Operand.tmp 21), type := 41, pos := "store.go:91", after := #[{ on := 7, ground := Ground.data }], guard := none }) (v := ?vpch35) rfl (by kernel_rfl) (by kernel_rfl) (by kernel_rfl) (fun _ _ _ h => h) (Or.inl ⟨by rfl, ?ypch35⟩) hk ?rpch35
    case ypch35 => (intro w hSw; have hcw := hSw.2; clear hSw; go_simp; first | done | with_reducible rfl)
    simp only [Act.put, List.setIfInBounds_toArray, List.set_cons_zero, List.set_cons_succ]
    refine wpAnyH_ready (rs := [1, 5]) (by decide +kernel) (by simp) ?_
    refine (AllReadyH.cons (o := { dst := some 15, op := Op.buildSlice 41 1 #[(0, Operand.const (Value.int IntKind.u8 0))], type := 41, pos := "store.go:91", after := #[], guard := none }) rfl (fun K hK => ?_) (AllReadyH.cons (o := { dst := some 19, op := Op.convert 9 41 (Operand.tmp 18), type := 41, pos := "store.go:91", after := #[{ on := 4, ground := Ground.data }], guard := none }) rfl (fun K hK => ?_) AllReadyH.nil))
    · go_simp
      have hbA : Below wk.heap.size wk (wk.alloc (.cells #[.int .u8 0] 5)) := (Below.refl _ _).alloc (Nat.le_refl _) _
      have HN : Bx (Bts (wk.alloc (.cells #[.int .u8 0] 5)) (some ⟨wk.heap.size, 0, none⟩) 1 1 [0]) := ⟨bts_one wk _ (by decide)⟩
      replace HP : Bx (PCs base w (wk.alloc (.cells #[.int .u8 0] 5)) bx #[.string key, .bool false, .slice ai ni ci] V n l) := ⟨HP.out.below hbA⟩
      try replace HM : Bx (Bts (wk.alloc (.cells #[.int .u8 0] 5)) (some ⟨G2, 0, none⟩) key.size cm (strL key) ∧ Apart V (some ⟨G2, 0, none⟩) key.size) := ⟨HM.out.1.below hbA, HM.out.2⟩
      clear hbA hk
      generalize wk.heap.size = G at HN ⊢
      first | generalize wk.alloc (.cells #[.int .u8 0] 5) = wk at HN HP HM ⊢ | generalize wk.alloc (.cells #[.int .u8 0] 5) = wk at HN HP ⊢
      have hk := HP.out.s
      refine hK.out _ _ hk (fun _ => ?_)
      clear hK K
      try simp only [Act.put, List.setIfInBounds_toArray, List.set_cons_zero, List.set_cons_succ]
      refine wpAnyH_ready (rs := [2, 5]) (by decide +kernel) (by simp) ?_
      refine (AllReadyH.cons (o := { dst := some 16, op := Op.call { callee := Callee.builtin Builtin.append, args := #[Operand.tmp 14, Operand.tmp 15], argTypes := #[41, 41] }, type := 41, pos := "store.go:91", after := #[{ on := 0, ground := Ground.data }, { on := 1, ground := Ground.data }], guard := none }) rfl (fun K hK => ?_) (AllReadyH.cons (o := { dst := some 19, op := Op.convert 9 41 (Operand.tmp 18), type := 41, pos := "store.go:91", after := #[{ on := 4, ground := Ground.data }], guard := none }) rfl (fun K hK => ?_) AllReadyH.nil))
      · refine step_append_btsL rfl (.tmp 14) (.tmp 15) rfl base n _ l rfl HP.out.own (some ⟨G, 0, none⟩) 1 1 [0] rfl HN.out (.inr (by omega)) (by omega) HP.out.bs ?_
        intro v6 w6 hown6 hk6 hl6
        replace HP : Bx (PCs base w w6 bx #[.string key, .bool false, .slice ai ni ci] v6 (n + 1) (l ++ [0])) := ⟨HP.out.app hk6 hl6 hown6⟩
        try replace HM : Bx (Bts w6 (some ⟨G2, 0, none⟩) key.size cm (strL key) ∧ Apart v6 (some ⟨G2, 0, none⟩) key.size) := ⟨HM.out.1.apart hk6 HM.out.2, HM.out.2.lies HM.out.1 hl6⟩
        clear hown6 hk6 hl6 HN hk
        obtain ⟨wk, hwk⟩ : ∃ x, x = w6 := ⟨_, rfl⟩
        subst hwk
        obtain ⟨V, hVV⟩ : ∃ x, x = v6 := ⟨_, rfl⟩
        subst hVV
        have hk := HP.out.s
        refine hK.out _ _ hk (fun _ => ?_)
        clear hK K
        try simp only [Act.put, List.setIfInBounds_toArray, List.set_cons_zero, List.set_cons_succ]
        refine wpAnyH_ready (rs := [5]) (by decide +kernel) (by simp) ?_
        refine AllReadyH.cons (o := { dst := some 19, op := Op.convert 9 41 (Operand.tmp 18), type := 41, pos := "store.go:91", after := #[{ on := 4, ground := Ground.data }], guard := none }) rfl (fun K hK => ?_) AllReadyH.nil
        rw [if_pos (by rfl)]
        obtain ⟨cm, wv, hcv, hbv, hbm⟩ := conv_bytes wk key hks
        go_simp
        have HM : Bx (Bts wv (some ⟨wk.heap.size, 0, none⟩) key.size cm (strL key) ∧ Apart (_) (some ⟨wk.heap.size, 0, none⟩) key.size) := ⟨hbm, HP.out.new⟩
        replace HP := Bx.mk (HP.out.below hbv)
        try replace HN := Bx.mk (HN.out.below hbv)
        clear hcv hbv hbm hk
        generalize wk.heap.size = G2 at HM ⊢
        obtain ⟨wk, hwk⟩ : ∃ x, x = wv := ⟨_, rfl⟩
        subst hwk
        have hk := HP.out.s
        refine hK.out _ _ hk (fun _ => ?_)
        clear hK K
        try simp only [Act.put, List.setIfInBounds_toArray, List.set_cons_zero, List.set_cons_succ]
        refine wpAnyH_ready (rs := [6]) (by decide +kernel) (by simp) ?_
        refine AllReadyH.cons (o := { dst := some 20, op := Op.call { callee := Callee.value (Operand.func 68), args := #[Operand.tmp 16, Operand.tmp 19], argTypes := #[41, 41] }, type := 41, pos := "store.go:91", after := #[{ on := 2, ground := Ground.data }, { on := 5, ground := Ground.data }, { on := 2, ground := Ground.chain }], guard := none }) rfl (fun K hK => ?_) AllReadyH.nil
        go_simp
        refine (putbytes_any base _ _ _ _ _ _ (strL key) _ HP.out.own HM.out.1 HM.out.2 HP.out.bs (by omega)).mono ?_
        rintro e7 w7 ⟨v7, rfl, hown7, hk7, hl7⟩
        replace HP := Bx.mk (HP.out.app hk7 hl7 hown7)
        clear hown7 hk7 hl7 HM hk
        have hk := HP.out.s
        refine hK.out _ _ hk (fun _ => ?_)
        clear hK K
        try simp only [Act.put, List.setIfInBounds_toArray, List.set_cons_zero, List.set_cons_succ]
        refine wpAnyH_ready (rs := [9]) (by decide +kernel) (by simp) ?_
        refine AllReadyH.cons (o := { dst := some 23, op := Op.call { callee := Callee.value (Operand.func 68), args := #[Operand.tmp 20, Operand.tmp 22], argTypes := #[41, 41] }, type := 41, pos := "store.go:91", after := #[{ on := 6, ground := Ground.data }, { on := 8, ground := Ground.data }, { on := 6, ground := Ground.chain }], guard := none }) rfl (fun K hK => ?_) AllReadyH.nil
        go_simp
        obtain ⟨hvb, hva⟩ := HV.out _ HP.out.low
        refine (putbytes_any base _ _ _ _ _ _ val _ HP.out.own hvb (hva _ (fun g hg => (HP.out.own.lt g hg).1)) HP.out.bs (by omega)).mono ?_
        rintro e8 w8 ⟨v8, rfl, hown8, hk8, hl8⟩
        replace HP := Bx.mk (HP.out.app hk8 hl8 hown8)
        clear hown8 hk8 hl8 hk hvb hva
        have hk := HP.out.s
        refine hK.out _ _ hk (fun _ => ?_)
        clear hK K
        try simp only [Act.put, List.setIfInBounds_toArray, List.set_cons_zero, List.set_cons_succ]
        refine wpAnyH_take (i := 10) (oi := { dst := some 4, op := Op.assign (Operand.tmp 23), type := 41, pos := "store.go:91", after := #[{ on := 9, ground := Ground.data }, { on := 9, ground := Ground.chain }, { on := 0, ground := Ground.phase }, { on := 1, ground := Ground.phase }, { on := 2, ground := Ground.phase }, { on := 3, ground := Ground.phase }, { on := 4, ground := Ground.phase }, { on := 5, ground := Ground.phase }, { on := 6, ground := Ground.phase }, { on := 7, ground := Ground.phase }, { on := 8, ground := Ground.phase }, { on := 9, ground := Ground.phase }], guard := none }) (v := ?vpch37) rfl (by kernel_rfl) (by kernel_rfl) (by kernel_rfl) (fun _ _ _ h => h) (Or.inl ⟨by rfl, ?ypch37⟩) hk ?rpch37
        case ypch37 => (intro w hSw; (try dsimp only at hSw); go_simp; first | done | with_reducible rfl)
        simp only [Act.put, List.setIfInBounds_toArray, List.set_cons_zero, List.set_cons_succ]
        refine wpAnyH_done (by decide +kernel) ?_ _
        have hfin : w8.ownsRow base 5 1 v8 (n + (chgL ⟨key, false, val⟩).length) (bv (l ++ chgL ⟨key, false, val⟩)) := by
          have e1 : n + (chgL ⟨key, false, val⟩).length = n + 1 + ((varL key.size).length + key.size) + ((varL ni).length + ni) := by rw [HR.out, List.length_cons, List.length_append, List.length_append, List.length_append, strL_length, hvl]; omega
          have e2 : l ++ chgL ⟨key, false, val⟩ = l ++ [0] ++ (varL key.size ++ strL key) ++ (varL ni ++ val) := by rw [HR.out]; simp
          rw [e1, e2]; exact HP.out.own
        have hlow := HP.out.low
        obtain ⟨a9, n9, c9, rfl⟩ := own_form HP.out.own
        clear HP hk
        go_wp2_with fail
        go_ret
        exact ⟨_, rfl, hfin, hlow⟩
      · rw [if_pos (by rfl)]
        obtain ⟨cm, wv, hcv, hbv, hbm⟩ := conv_bytes wk key hks
        go_simp
        have HM : Bx (Bts wv (some ⟨wk.heap.size, 0, none⟩) key.size cm (strL key) ∧ Apart (_) (some ⟨wk.heap.size, 0, none⟩) key.size) := ⟨hbm, HP.out.new⟩
        replace HP := Bx.mk (HP.out.below hbv)
        try replace HN := Bx.mk (HN.out.below hbv)
        clear hcv hbv hbm hk
        generalize wk.heap.size = G2 at HM ⊢
        obtain ⟨wk, hwk⟩ : ∃ x, x = wv := ⟨_, rfl⟩
        subst hwk
        have hk := HP.out.s
        refine hK.out _ _ hk (fun _ => ?_)
        clear hK K
        try simp only [Act.put, List.setIfInBounds_toArray, List.set_cons_zero, List.set_cons_succ]
        refine wpAnyH_ready (rs := [2]) (by decide +kernel) (by simp) ?_
        refine AllReadyH.cons (o := { dst := some 16, op := Op.call { callee := Callee.builtin Builtin.append, args := #[Operand.tmp 14, Operand.tmp 15], argTypes := #[41, 41] }, type := 41, pos := "store.go:91", after := #[{ on := 0, ground := Ground.data }, { on := 1, ground := Ground.data }], guard := none }) rfl (fun K hK => ?_) AllReadyH.nil
        refine step_append_btsL rfl (.tmp 14) (.tmp 15) rfl base n _ l rfl HP.out.own (some ⟨G, 0, none⟩) 1 1 [0] rfl HN.out (.inr (by omega)) (by omega) HP.out.bs ?_
        intro v6 w6 hown6 hk6 hl6
        replace HP : Bx (PCs base w w6 bx #[.string key, .bool false, .slice ai ni ci] v6 (n + 1) (l ++ [0])) := ⟨HP.out.app hk6 hl6 hown6⟩
        try replace HM : Bx (Bts w6 (some ⟨G2, 0, none⟩) key.size cm (strL key) ∧ Apart v6 (some ⟨G2, 0, none⟩) key.size) := ⟨HM.out.1.apart hk6 HM.out.2, HM.out.2.lies HM.out.1 hl6⟩
        clear hown6 hk6 hl6 HN hk
        obtain ⟨wk, hwk⟩ : ∃ x, x = w6 := ⟨_, rfl⟩
        subst hwk
        obtain ⟨V, hVV⟩ : ∃ x, x = v6 := ⟨_, rfl⟩
        subst hVV
        have hk := HP.out.s
        refine hK.out _ _ hk (fun _ => ?_)
        clear hK K
        try simp only [Act.put, List.setIfInBounds_toArray, List.set_cons_zero, List.set_cons_succ]
        refine wpAnyH_ready (rs := [6]) (by decide +kernel) (by simp) ?_
        refine AllReadyH.cons (o := { dst := some 20, op := Op.call { callee := Callee.value (Operand.func 68), args := #[Operand.tmp 16, Operand.tmp 19], argTypes := #[41, 41] }, type := 41, pos := "store.go:91", after := #[{ on := 2, ground := Ground.data }, { on := 5, ground := Ground.data }, { on := 2, ground := Ground.chain }], guard := none }) rfl (fun K hK => ?_) AllReadyH.nil
        go_simp
        refine (putbytes_any base _ _ _ _ _ _ (strL key) _ HP.out.own HM.out.1 HM.out.2 HP.out.bs (by omega)).mono ?_
        rintro e7 w7 ⟨v7, rfl, hown7, hk7, hl7⟩
        replace HP := Bx.mk (HP.out.app hk7 hl7 hown7)
        clear hown7 hk7 hl7 HM hk
        have hk := HP.out.s
        refine hK.out _ _ hk (fun _ => ?_)
        clear hK K
        try simp only [Act.put, List.setIfInBounds_toArray, List.set_cons_zero, List.set_cons_succ]
        refine wpAnyH_ready (rs := [9]) (by decide +kernel) (by simp) ?_
        refine AllReadyH.cons (o := { dst := some 23, op := Op.call { callee := Callee.value (Operand.func 68), args := #[Operand.tmp 20, Operand.tmp 22], argTypes := #[41, 41] }, type := 41, pos := "store.go:91", after := #[{ on := 6, ground := Ground.data }, { on := 8, ground := Ground.data }, { on := 6, ground := Ground.chain }], guard := none }) rfl (fun K hK => ?_) AllReadyH.nil
        go_simp
        obtain ⟨hvb, hva⟩ := HV.out _ HP.out.low
        refine (putbytes_any base _ _ _ _ _ _ val _ HP.out.own hvb (hva _ (fun g hg => (HP.out.own.lt g hg).1)) HP.out.bs (by omega)).mono ?_
        rintro e8 w8 ⟨v8, rfl, hown8, hk8, hl8⟩
        replace HP := Bx.mk (HP.out.app hk8 hl8 hown8)
        clear hown8 hk8 hl8 hk hvb hva
        have hk := HP.out.s
        refine hK.out _ _ hk (fun _ => ?_)
        clear hK K
        try simp only [Act.put, List.setIfInBounds_toArray, List.set_cons_zero, List.set_cons_succ]
        refine wpAnyH_take (i := 10) (oi := { dst := some 4, op := Op.assign (Operand.tmp 23), type := 41, pos := "store.go:91", after := #[{ on := 9, ground := Ground.data }, { on := 9, ground := Ground.chain }, { on := 0, ground := Ground.phase }, { on := 1, ground := Ground.phase }, { on := 2, ground := Ground.phase }, { on := 3, ground := Ground.phase }, { on := 4, ground := Ground.phase }, { on := 5, ground := Ground.phase }, { on := 6, ground := Ground.phase }, { on := 7, ground := Ground.phase }, { on := 8, ground := Ground.phase }, { on := 9, ground := Ground.phase }], guard := none }) (v := ?vpch39) rfl (by kernel_rfl) (by kernel_rfl) (by kernel_rfl) (fun _ _ _ h => h) (Or.inl ⟨by rfl, ?ypch39⟩) hk ?rpch39
        case ypch39 => (intro w hSw; (try dsimp only at hSw); go_simp; first | done | with_reducible rfl)
        simp only [Act.put, List.setIfInBounds_toArray, List.set_cons_zero, List.set_cons_succ]
        refine wpAnyH_done (by decide +kernel) ?_ _
        have hfin : w8.ownsRow base 5 1 v8 (n + (chgL ⟨key, false, val⟩).length) (bv (l ++ chgL ⟨key, false, val⟩)) := by
          have e1 : n + (chgL ⟨key, false, val⟩).length = n + 1 + ((varL key.size).length + key.size) + ((varL ni).length + ni) := by rw [HR.out, List.length_cons, List.length_append, List.length_append, List.length_append, strL_length, hvl]; omega
          have e2 : l ++ chgL ⟨key, false, val⟩ = l ++ [0] ++ (varL key.size ++ strL key) ++ (varL ni ++ val) := by rw [HR.out]; simp
          rw [e1, e2]; exact HP.out.own
        have hlow := HP.out.low
        obtain ⟨a9, n9, c9, rfl⟩ := own_form HP.out.own
        clear HP hk
        go_wp2_with fail
        go_ret
        exact ⟨_, rfl, hfin, hlow⟩
    · rw [if_pos (by rfl)]
      obtain ⟨cm, wv, hcv, hbv, hbm⟩ := conv_bytes wk key hks
      go_simp
      have HM : Bx (Bts wv (some ⟨wk.heap.size, 0, none⟩) key.size cm (strL key) ∧ Apart (_) (some ⟨wk.heap.size, 0, none⟩) key.size) := ⟨hbm, HP.out.new⟩
      replace HP := Bx.mk (HP.out.below hbv)
      try replace HN := Bx.mk (HN.out.below hbv)
      clear hcv hbv hbm hk
      generalize wk.heap.size = G2 at HM ⊢
      obtain ⟨wk, hwk⟩ : ∃ x, x = wv := ⟨_, rfl⟩
      subst hwk
      have hk := HP.out.s
      refine hK.out _ _ hk (fun _ => ?_)
      clear hK K
      try simp only [Act.put, List.setIfInBounds_toArray, List.set_cons_zero, List.set_cons_succ]
      refine wpAnyH_ready (rs := [1]) (by decide +kernel) (by simp) ?_
      refine AllReadyH.cons (o := { dst := some 15, op := Op.buildSlice 41 1 #[(0, Operand.const (Value.int IntKind.u8 0))], type := 41, pos := "store.go:91", after := #[], guard := none }) rfl (fun K hK => ?_) AllReadyH.nil
      go_simp
      have hbA : Below wk.heap.size wk (wk.alloc (.cells #[.int .u8 0] 5)) := (Below.refl _ _).alloc (Nat.le_refl _) _
      have HN : Bx (Bts (wk.alloc (.cells #[.int .u8 0] 5)) (some ⟨wk.heap.size, 0, none⟩) 1 1 [0]) := ⟨bts_one wk _ (by decide)⟩
      replace HP : Bx (PCs base w (wk.alloc (.cells #[.int .u8 0] 5)) bx #[.string key, .bool false, .slice ai ni ci] V n l) := ⟨HP.out.below hbA⟩
      try replace HM : Bx (Bts (wk.alloc (.cells #[.int .u8 0] 5)) (some ⟨G2, 0, none⟩) key.size cm (strL key) ∧ Apart V (some ⟨G2, 0, none⟩) key.size) := ⟨HM.out.1.below hbA, HM.out.2⟩
      clear hbA hk
      generalize wk.heap.size = G at HN ⊢
      first | generalize wk.alloc (.cells #[.int .u8 0] 5) = wk at HN HP HM ⊢ | generalize wk.alloc (.cells #[.int .u8 0] 5) = wk at HN HP ⊢
      have hk := HP.out.s
      refine hK.out _ _ hk (fun _ => ?_)
      clear hK K
      try simp only [Act.put, List.setIfInBounds_toArray, List.set_cons_zero, List.set_cons_succ]
      refine wpAnyH_ready (rs := [2]) (by decide +kernel) (by simp) ?_
      refine AllReadyH.cons (o := { dst := some 16, op := Op.call { callee := Callee.builtin Builtin.append, args := #[Operand.tmp 14, Operand.tmp 15], argTypes := #[41, 41] }, type := 41, pos := "store.go:91", after := #[{ on := 0, ground := Ground.data }, { on := 1, ground := Ground.data }], guard := none }) rfl (fun K hK => ?_) AllReadyH.nil
      refine step_append_btsL rfl (.tmp 14) (.tmp 15) rfl base n _ l rfl HP.out.own (some ⟨G, 0, none⟩) 1 1 [0] rfl HN.out (.inr (by omega)) (by omega) HP.out.bs ?_
      intro v6 w6 hown6 hk6 hl6
      replace HP : Bx (PCs base w w6 bx #[.string key, .bool false, .slice ai ni ci] v6 (n + 1) (l ++ [0])) := ⟨HP.out.app hk6 hl6 hown6⟩
      try replace HM : Bx (Bts w6 (some ⟨G2, 0, none⟩) key.size cm (strL key) ∧ Apart v6 (some ⟨G2, 0, none⟩) key.size) := ⟨HM.out.1.apart hk6 HM.out.2, HM.out.2.lies HM.out.1 hl6⟩
      clear hown6 hk6 hl6 HN hk
      obtain ⟨wk, hwk⟩ : ∃ x, x = w6 := ⟨_, rfl⟩
      subst hwk
      obtain ⟨V, hVV⟩ : ∃ x, x = v6 := ⟨_, rfl⟩
      subst hVV
      have hk := HP.out.s
      refine hK.out _ _ hk (fun _ => ?_)
      clear hK K
      try simp only [Act.put, List.setIfInBounds_toArray, List.set_cons_zero, List.set_cons_succ]
      refine wpAnyH_ready (rs := [6]) (by decide +kernel) (by simp) ?_
      refine AllReadyH.cons (o := { dst := some 20, op := Op.call { callee := Callee.value (Operand.func 68), args := #[Operand.tmp 16, Operand.tmp 19], argTypes := #[41, 41] }, type := 41, pos := "store.go:91", after := #[{ on := 2, ground := Ground.data }, { on := 5, ground := Ground.data }, { on := 2, ground := Ground.chain }], guard := none }) rfl (fun K hK => ?_) AllReadyH.nil
      go_simp
      refine (putbytes_any base _ _ _ _ _ _ (strL key) _ HP.out.own HM.out.1 HM.out.2 HP.out.bs (by omega)).mono ?_
      rintro e7 w7 ⟨v7, rfl, hown7, hk7, hl7⟩
      replace HP := Bx.mk (HP.out.app hk7 hl7 hown7)
      clear hown7 hk7 hl7 HM hk
      have hk := HP.out.s
      refine hK.out _ _ hk (fun _ => ?_)
      clear hK K
      try simp only [Act.put, List.setIfInBounds_toArray, List.set_cons_zero, List.set_cons_succ]
      refine wpAnyH_ready (rs := [9]) (by decide +kernel) (by simp) ?_
      refine AllReadyH.cons (o := { dst := some 23, op := Op.call { callee := Callee.value (Operand.func 68), args := #[Operand.tmp 20, Operand.tmp 22], argTypes := #[41, 41] }, type := 41, pos := "store.go:91", after := #[{ on := 6, ground := Ground.data }, { on := 8, ground := Ground.data }, { on := 6, ground := Ground.chain }], guard := none }) rfl (fun K hK => ?_) AllReadyH.nil
      go_simp
      obtain ⟨hvb, hva⟩ := HV.out _ HP.out.low
      refine (putbytes_any base _ _ _ _ _ _ val _ HP.out.own hvb (hva _ (fun g hg => (HP.out.own.lt g hg).1)) HP.out.bs (by omega)).mono ?_
      rintro e8 w8 ⟨v8, rfl, hown8, hk8, hl8⟩
      replace HP := Bx.mk (HP.out.app hk8 hl8 hown8)
      clear hown8 hk8 hl8 hk hvb hva
      have hk := HP.out.s
      refine hK.out _ _ hk (fun _ => ?_)
      clear hK K
      try simp only [Act.put, List.setIfInBounds_toArray, List.set_cons_zero, List.set_cons_succ]
      refine wpAnyH_take (i := 10) (oi := { dst := some 4, op := Op.assign (Operand.tmp 23), type := 41, pos := "store.go:91", after := #[{ on := 9, ground := Ground.data }, { on := 9, ground := Ground.chain }, { on := 0, ground := Ground.phase }, { on := 1, ground := Ground.phase }, { on := 2, ground := Ground.phase }, { on := 3, ground := Ground.phase }, { on := 4, ground := Ground.phase }, { on := 5, ground := Ground.phase }, { on := 6, ground := Ground.phase }, { on := 7, ground := Ground.phase }, { on := 8, ground := Ground.phase }, { on := 9, ground := Ground.phase }], guard := none }) (v := ?vpch311) rfl (by kernel_rfl) (by kernel_rfl) (by kernel_rfl) (fun _ _ _ h => h) (Or.inl ⟨by rfl, ?ypch311⟩) hk ?rpch311
      case ypch311 => (intro w hSw; (try dsimp only at hSw); go_simp; first | done | with_reducible rfl)
      simp only [Act.put, List.setIfInBounds_toArray, List.set_cons_zero, List.set_cons_succ]
      refine wpAnyH_done (by decide +kernel) ?_ _
      have hfin : w8.ownsRow base 5 1 v8 (n + (chgL ⟨key, false, val⟩).length) (bv (l ++ chgL ⟨key, false, val⟩)) := by
        have e1 : n + (chgL ⟨key, false, val⟩).length = n + 1 + ((varL key.size).length + key.size) + ((varL ni).length + ni) := by rw [HR.out, List.length_cons, List.length_append, List.length_append, List.length_append, strL_length, hvl]; omega
        have e2 : l ++ chgL ⟨key, false, val⟩ = l ++ [0] ++ (varL key.size ++ strL key) ++ (varL ni ++ val) := by rw [HR.out]; simp
        rw [e1, e2]; exact HP.out.own
      have hlow := HP.out.low
      obtain ⟨a9, n9, c9, rfl⟩ := own_form HP.out.own
      clear HP hk
      go_wp2_with fail
      go_ret
      exact ⟨_, rfl, hfin, hlow⟩
end Go.Proofs.Ytjnjokbdoendkab
