/- The text of changes: bytes behind bytes. The text of a change, the program's. Encode, the program's. Bytes that are counted, read: the program's. The change with which bytes begin: the program's. Decode, the program's. -/
import Derived.Test.YtipakjenggeflaaGreatDoorPkap
import Derived.Test.YtipakjenggeflaaGreatDoorAppL
import Derived.Test.YtipakjenggeflaaGreatDoorPkao
import Derived.Test.YtipakjenggeflaaGreatDoorPkal
import Derived.Deep.AppendLies
import Derived.ArgAppend
import Derived.Lib.ConvBytes
namespace Go.Proofs.YtipakjenggeflaaGreatDoor
open Go.RowKit
set_option linter.unusedVariables false

set_option maxRecDepth 100000 in
set_option maxHeartbeats 1000000 in
theorem putbytes_any (base n : Nat) (v : Value) (l : List Int) (ao : Option Addr) (m c : Nat) (l2 : List Int) (w : World) (hown : w.ownsRow base 5 1 v n (bv l)) (hbt : Bts w ao m c l2) (hap : Apart v ao m) (hbase : base ≤ w.heap.size) (h63 : n + m ≤ 70368744177664) :
    Calls Tryz.prog 321 #[v, .slice ao m c] w fun e w' => ∃ v', e = .returned v' ∧ w'.ownsRow base 5 1 v' (n + ((varL m).length + m)) (bv (l ++ (varL m ++ l2))) ∧ Kept (fun k => v.ownBlock = some k) w w' ∧ Lies v v' w.heap.size := by
  obtain ⟨a0, n0, c0, rfl⟩ : ∃ a0 n0 c0, v = .slice a0 n0 c0 := by
    rcases hown.2 with ⟨rfl, _⟩ | ⟨g, cap, cur, rfl, _⟩
    · exact ⟨_, _, _, rfl⟩
    · exact ⟨_, _, _, rfl⟩
  have HO : Bx (w.ownsRow base 5 1 (.slice a0 n0 c0) n (bv l)) := ⟨hown⟩
  have HB : Bx (Bts w ao m c l2) := ⟨hbt⟩
  have HA : Bx (Apart (.slice a0 n0 c0) ao m) := ⟨hap⟩
  have hvl := (varL_length m)
  have hvb : Bx (Byt (varL m)) := ⟨varL_byt m (by omega) (by omega)⟩
  clear hown hbt hap
  have gm : (m : Int) % 18446744073709551616 = m := by omega
  go_enter Tryz.func321, Tryz.ntmps321
  go_wp2_with fail
  refine (var_any (m : Int) _ (by omega) (by omega)).mono ?_
  rintro e w1 ⟨v1, rfl, hown1, hb1⟩
  obtain ⟨a1, c1, rfl, hm1⟩ := Bts.of_owns hown1 hvb.out
  have hs1 := hb1.size
  have HAP1 : Bx (Apart (.slice a0 n0 c0) a1 (varL m).length) := ⟨fun hp p e e2 => by
    have h1 := own_ge hown1 p e
    have h2 := (HO.out.lt _ e2).2
    omega⟩
  have HO1 : Bx (w1.ownsRow base 5 1 (.slice a0 n0 c0) n (bv l)) := ⟨owns_below HO.out hb1⟩
  have HB1 : Bx (Bts w1 ao m c l2) := ⟨HB.out.below hb1⟩
  obtain ⟨P, HPP⟩ : ∃ P, Bx (varL m = P) := ⟨_, ⟨rfl⟩⟩
  obtain ⟨pl, HPL⟩ : ∃ pl, Bx (P.length = pl) := ⟨_, ⟨rfl⟩⟩
  rw [HPP.out, HPL.out] at hvl hm1 HAP1
  rw [HPP.out, HPL.out] at hown1
  rw [HPP.out, HPL.out]
  have HM1 : Bx (Bts w1 a1 pl c1 P) := ⟨hm1⟩
  have HBL : Bx (Below w.heap.size w w1) := ⟨hb1⟩
  clear hown1 hm1 hb1 HO HB hvb
  go_wp2_with (at_builtin; refine wpList_append_btsL rfl (.tmp 5) (.tmp 9) rfl base n _ l rfl HO1.out a1 pl c1 P rfl HM1.out (.inr (by omega)) (by omega) (by omega) ?_)
  intro v2 w2 hown2 hk2 hl2
  have HB2 : Bx (Bts w2 ao m c l2) := ⟨HB1.out.apart hk2 HA.out⟩
  have HA2 : Bx (Apart v2 ao m) := ⟨HA.out.lies HB1.out hl2⟩
  have hs2 := hk2.size
  obtain ⟨a2, n2, c2, rfl⟩ : ∃ a2 n2 c2, v2 = .slice a2 n2 c2 := by
    rcases hown2.2 with ⟨rfl, _⟩ | ⟨g, cap, cur, rfl, _⟩
    · exact ⟨_, _, _, rfl⟩
    · exact ⟨_, _, _, rfl⟩
  have HO2 : Bx (w2.ownsRow base 5 1 (.slice a2 n2 c2) (n + pl) (bv (l ++ P))) := ⟨hown2⟩
  have HK2 : Bx (Kept (fun k => (Value.slice a0 n0 c0).ownBlock = some k) w w2) := ⟨(Kept.of_below HBL.out).trans' hk2⟩
  have HL2 : Bx (Lies (.slice a0 n0 c0) (.slice a2 n2 c2) w.heap.size) := ⟨fun g hg => by
    rcases hl2 g hg with h1 | h1
    · exact .inl h1
    · exact .inr (by omega)⟩
  clear hown2 hk2 hl2
  go_wp2_with (at_builtin; refine wpList_append_btsL rfl (.tmp 10) (.tmp 11) rfl base (n + pl) _ (l ++ P) rfl HO2.out ao m c l2 rfl HB2.out (.inl (by omega)) (by omega) (by omega) ?_)
  intro v3 w3 hown3 hk3 hl3
  obtain ⟨a3, n3, c3, rfl⟩ : ∃ a3 n3 c3, v3 = .slice a3 n3 c3 := by
    rcases hown3.2 with ⟨rfl, _⟩ | ⟨g, cap, cur, rfl, _⟩
    · exact ⟨_, _, _, rfl⟩
    · exact ⟨_, _, _, rfl⟩
  have R : Bx (w3.ownsRow base 5 1 (.slice a3 n3 c3) (n + (pl + m)) (bv (l ++ (P ++ l2))) ∧ Kept (fun k => (Value.slice a0 n0 c0).ownBlock = some k) w w3 ∧ Lies (.slice a0 n0 c0) (.slice a3 n3 c3) w.heap.size) := by
    refine ⟨?_, HK2.out.lies hk3 HL2.out, HL2.out.trans hl3 (by omega)⟩
    rw [← Nat.add_assoc]; exact hown3
  clear hown3 hk3 hl3
  go_wp2_with fail
  go_ret
  refine ⟨_, rfl, ?_⟩
  rw [HPP.out, HPL.out]
  exact R.out
end Go.Proofs.YtipakjenggeflaaGreatDoor
namespace Go.Proofs.YtipakjenggeflaaGreatDoor
open Go.RowKit
set_option linter.unusedVariables false

set_option maxRecDepth 100000 in
theorem bts_oneS (w : World) (x : Int) (hx : 0 ≤ x ∧ x ≤ 255) : Bts (w.alloc (.cells #[.int .u8 x] 5)) (some ⟨w.heap.size, 0, none⟩) 1 1 [x] :=
  ⟨rfl, fun c hc => by simp at hc; rw [hc]; exact hx, Nat.le_refl _, by unfold maxLen; omega, (fun hh => by cases hh), fun _ => ⟨w.heap.size, 0, rfl, by simp, fun i hi => by
    obtain rfl : i = 0 := by omega
    simp⟩⟩
/-- a row that grows, beside the change in its variable -/
structure PCs (base : Nat) (w0 wk : World) (bx : Nat) (cs : Array Value) (V : Value) (n : Nat) (l : List Int) : Prop where
  low : Below base w0 wk
  box : wk.heap[bx]? = some (.cells cs 167 (0, 0))
  own : wk.ownsRow base 5 1 V n (bv l)
  ne : V.ownBlock ≠ some bx
  bs : base ≤ wk.heap.size
section
variable {base : Nat} {w0 wk w' : World} {bx : Nat} {cs : Array Value} {V V' : Value} {n n' : Nat} {l l' : List Int}
set_option maxRecDepth 100000 in
theorem PCs.below (h : PCs base w0 wk bx cs V n l) (hb : Below wk.heap.size wk w') : PCs base w0 w' bx cs V n l :=
  ⟨h.low.trans (hb.mono h.bs), (hb.block bx (Array.getElem?_eq_some_iff.1 h.box).1).trans h.box, owns_below h.own hb, h.ne, Nat.le_trans h.bs hb.size⟩
set_option maxRecDepth 100000 in
theorem PCs.app (h : PCs base w0 wk bx cs V n l) (hk : Kept (fun k => V.ownBlock = some k) wk w') (hl : Lies V V' wk.heap.size) (ho : w'.ownsRow base 5 1 V' n' (bv l')) : PCs base w0 w' bx cs V' n' l' :=
  ⟨h.low.trans (hk.low (fun k hk => (h.own.lt k hk).1) h.bs), (hk.block bx (Array.getElem?_eq_some_iff.1 h.box).1 h.ne).trans h.box, ho, fun e => by
    rcases hl _ e with h1 | h1
    · exact h.ne h1
    · have := (Array.getElem?_eq_some_iff.1 h.box).1; omega, Nat.le_trans h.bs hk.size⟩
set_option maxRecDepth 100000 in
theorem PCs.s {key : ByteArray} {d : Bool} {ai : Option Addr} {ni ci : Nat} (h : PCs base w0 wk bx #[.string key, .bool d, .slice ai ni ci] V n l) : wk.cell? ⟨bx, 0, none⟩ = some (.string key) ∧ wk.cell? ⟨bx, 2, none⟩ = some (.slice ai ni ci) :=
  ⟨by rw [cell_of_row wk bx 0 _ _ (0, 0) h.box]; rfl, by rw [cell_of_row wk bx 2 _ _ (0, 0) h.box]; rfl⟩
set_option maxRecDepth 100000 in
theorem PCs.new (h : PCs base w0 wk bx cs V n l) {m : Nat} : Apart V (some ⟨wk.heap.size, 0, none⟩) m := fun _ p e e2 => by
  have h1 := (h.own.lt _ e2).2
  cases e
  exact absurd h1 (Nat.lt_irrefl _)
end
set_option maxRecDepth 100000 in
theorem own_form {w : World} {base n k : Nat} {E : TypeId} {v : Value} {xs : List Value} (h : w.ownsRow base E k v n xs) : ∃ a0 n0 c0, v = .slice a0 n0 c0 := by
  rcases h.2 with ⟨rfl, _⟩ | ⟨g, cap, cur, rfl, _⟩
  · exact ⟨_, _, _, rfl⟩
  · exact ⟨_, _, _, rfl⟩
set_option maxRecDepth 100000 in
set_option maxHeartbeats 2000000 in
theorem putchange_any (base n : Nat) (V : Value) (l : List Int) (key : ByteArray) (del : Bool) (val : List Int) (ai : Option Addr) (ni ci : Nat) (w : World) (hown : w.ownsRow base 5 1 V n (bv l)) (hbt : Bts w ai ni ci val) (hlo : 0 < ni → ∀ p, ai = some p → p.block < base) (hbase : base ≤ w.heap.size) (h63 : n ≤ 1099511627776) (hni : ni ≤ 1099511627776) (hks : key.size ≤ 1099511627776) :
    Calls Tryz.prog 286 #[V, .agg #[.string key, .bool del, .slice ai ni ci]] w fun e w' => ∃ v', e = .returned v' ∧ w'.ownsRow base 5 1 v' (n + (chgL ⟨key, del, val⟩).length) (bv (l ++ chgL ⟨key, del, val⟩)) ∧ Below base w w' := by
  obtain ⟨a0, n0, c0, rfl⟩ : ∃ a0 n0 c0, V = .slice a0 n0 c0 := by
    rcases hown.2 with ⟨rfl, _⟩ | ⟨g, cap, cur, rfl, _⟩
    · exact ⟨_, _, _, rfl⟩
    · exact ⟨_, _, _, rfl⟩
  obtain ⟨bx, hbx⟩ : ∃ bx, bx = w.heap.size := ⟨_, rfl⟩
  have HP0 : Bx (∀ d2, d2 = del → PCs base w (w.alloc (.cells #[.string key, .bool d2, .slice ai ni ci] 167)).drew w.heap.size #[.string key, .bool d2, .slice ai ni ci] (.slice a0 n0 c0) n l) := ⟨fun d2 _ => ⟨((Below.refl _ _).alloc hbase _).drew, heap_alloc_new w _, hown.alloc _, fun e => by have := (hown.lt _ e).2; omega, by simp; omega⟩⟩
  have HV : Bx (∀ W, Below base w W → Bts W ai ni ci val ∧ ∀ v, (∀ g, v.ownBlock = some g → base ≤ g) → Apart v ai ni) := ⟨fun W hW => ⟨hbt.keep (fun hp p e => hW.block _ (hlo hp p e)) hW.size, fun v hv hp p e e2 => by have h1 := hv _ e2; have h2 := hlo hp p e; omega⟩⟩
  have hks2 : key.size ≤ maxLen := by unfold maxLen; omega
  have hvk := (varL_length key.size).2
  have hvl := hbt.len_eq
  obtain ⟨hks3, hks⟩ : key.size ≤ 1099511627776 ∧ key.size ≤ maxLen := ⟨hks, hks2⟩
  clear hks2
  generalize hVV : Value.slice a0 n0 c0 = V at HP0 ⊢
  cases del with
  | true =>
    have HR : Bx (chgL ⟨key, true, val⟩ = 1 :: (varL key.size ++ strL key)) := ⟨by simp [chgL]⟩
    have HP := Bx.mk (HP0.out true rfl)
    clear hown hbt hlo HP0
    subst hVV
    go_enter Tryz.func286, Tryz.ntmps286
    go_wp2_with fail
    rw [← hbx] at HP ⊢
    have hk := HP.out.s
    generalize w.alloc (.cells #[.string key, .bool true, .slice ai ni ci] 167) = w0 at hk HP ⊢
    generalize Value.slice a0 n0 c0 = V at HP ⊢
    clear hbx
    refine wp_region_held_drew (S := fun W => W.cell? ⟨bx, 0, none⟩ = some (.string key) ∧ W.cell? ⟨bx, 2, none⟩ = some (.slice ai ni ci)) (by kernel_rfl) hk (fun _ => ?_)
    generalize hwk : w0.drew = wk at hk HP ⊢
    clear hwk
    refine wpAnyH_take (i := 0) (oi := ⟨some 7, .move (.tmp 0), 34, "store.go:89", #[], none⟩) (v := ?vpch21) rfl (by kernel_rfl) (by kernel_rfl) (by kernel_rfl) (fun _ _ _ h => h) (Or.inl ⟨by rfl, ?ypch21⟩) hk ?rpch21
    case ypch21 => (intro w hSw; (try dsimp only at hSw); go_simp; first | done | with_reducible rfl)
    simp only [Act.put, List.setIfInBounds_toArray, List.set_cons_zero, List.set_cons_succ]
    refine wpAnyH_take (i := 3) (oi := ⟨some 10, .fieldAddr 167 (.tmp 3) 0, 0, "store.go:89", #[], none⟩) (v := ?vpch22) rfl (by kernel_rfl) (by kernel_rfl) (by kernel_rfl) (fun _ _ _ h => h) (Or.inl ⟨by rfl, ?ypch22⟩) hk ?rpch22
    case ypch22 => (intro w hSw; (try dsimp only at hSw); go_simp; first | done | with_reducible rfl)
    simp only [Act.put, List.setIfInBounds_toArray, List.set_cons_zero, List.set_cons_succ]
    refine wpAnyH_take (i := 4) (oi := ⟨some 11, .load 9 (.tmp 10), 9, "store.go:89", #[⟨3, .data⟩], none⟩) (v := ?vpch23) rfl (by kernel_rfl) (by kernel_rfl) (by kernel_rfl) (fun _ _ _ h => h) (Or.inl ⟨by rfl, ?ypch23⟩) hk ?rpch23
    case ypch23 => (intro w hSw; have hcw := hSw.1; clear hSw; go_simp; first | done | with_reducible rfl)
    simp only [Act.put, List.setIfInBounds_toArray, List.set_cons_zero, List.set_cons_succ]
    refine wpAnyH_ready (rs := [1, 5]) (by decide +kernel) (by simp) ?_
    refine (AllReadyH.cons (o := ⟨some 8, .buildSlice 34 1 #[(0, .const (Value.int IntKind.u8 1))], 34, "store.go:89", #[], none⟩) rfl (fun K hK => ?_) (AllReadyH.cons (o := ⟨some 12, .convert 9 34 (.tmp 11), 34, "store.go:89", #[⟨4, .data⟩], none⟩) rfl (fun K hK => ?_) AllReadyH.nil))
    · go_simp
      have hbA : Below wk.heap.size wk (wk.alloc (.cells #[.int .u8 1] 5)) := (Below.refl _ _).alloc (Nat.le_refl _) _
      have HN : Bx (Bts (wk.alloc (.cells #[.int .u8 1] 5)) (some ⟨wk.heap.size, 0, none⟩) 1 1 [1]) := ⟨bts_oneS wk _ (by decide)⟩
      replace HP : Bx (PCs base w (wk.alloc (.cells #[.int .u8 1] 5)) bx #[.string key, .bool true, .slice ai ni ci] V n l) := ⟨HP.out.below hbA⟩
      try replace HM : Bx (Bts (wk.alloc (.cells #[.int .u8 1] 5)) (some ⟨G2, 0, none⟩) key.size cm (strL key) ∧ Apart V (some ⟨G2, 0, none⟩) key.size) := ⟨HM.out.1.below hbA, HM.out.2⟩
      clear hbA hk
      generalize wk.heap.size = G at HN ⊢
      first | generalize wk.alloc (.cells #[.int .u8 1] 5) = wk at HN HP HM ⊢ | generalize wk.alloc (.cells #[.int .u8 1] 5) = wk at HN HP ⊢
      have hk := HP.out.s
      refine hK.out _ _ hk (fun _ => ?_)
      clear hK K
      try simp only [Act.put, List.setIfInBounds_toArray, List.set_cons_zero, List.set_cons_succ]
      refine wpAnyH_ready (rs := [2, 5]) (by decide +kernel) (by simp) ?_
      refine (AllReadyH.cons (o := ⟨some 9, .call { callee := .builtin Builtin.append, args := #[.tmp 7, .tmp 8], argTypes := #[34, 34] }, 34, "store.go:89", #[⟨0, .data⟩, ⟨1, .data⟩], none⟩) rfl (fun K hK => ?_) (AllReadyH.cons (o := ⟨some 12, .convert 9 34 (.tmp 11), 34, "store.go:89", #[⟨4, .data⟩], none⟩) rfl (fun K hK => ?_) AllReadyH.nil))
      · refine step_append_btsL rfl (.tmp 7) (.tmp 8) rfl base n _ l rfl HP.out.own (some ⟨G, 0, none⟩) 1 1 [1] rfl HN.out (.inr (by omega)) (by omega) HP.out.bs ?_
        intro v6 w6 hown6 hk6 hl6
        replace HP : Bx (PCs base w w6 bx #[.string key, .bool true, .slice ai ni ci] v6 (n + 1) (l ++ [1])) := ⟨HP.out.app hk6 hl6 hown6⟩
        try replace HM : Bx (Bts w6 (some ⟨G2, 0, none⟩) key.size cm (strL key) ∧ Apart v6 (some ⟨G2, 0, none⟩) key.size) := ⟨HM.out.1.apart hk6 HM.out.2, HM.out.2.lies HM.out.1 hl6⟩
        clear hown6 hk6 hl6 HN hk
        obtain ⟨wk, hwk⟩ : ∃ x, x = w6 := ⟨_, rfl⟩
        subst hwk
        obtain ⟨V, hVV⟩ : ∃ x, x = v6 := ⟨_, rfl⟩
        subst hVV
        have hk := HP.out.s
        refine hK.out _ _ hk (fun _ => ?_)
        clear hK K
        try simp only [Act.put, List.setIfInBounds_toArray, List.set_cons_zero, List.set_cons_succ]
        refine wpAnyH_ready (rs := [5]) (by decide +kernel) (by simp) ?_
        refine AllReadyH.cons (o := ⟨some 12, .convert 9 34 (.tmp 11), 34, "store.go:89", #[⟨4, .data⟩], none⟩) rfl (fun K hK => ?_) AllReadyH.nil
        rw [if_pos (by rfl)]
        obtain ⟨cm, wv, hcv, hbv, hbm⟩ := conv_bytes wk key hks
        go_simp
        have HM : Bx (Bts wv (some ⟨wk.heap.size, 0, none⟩) key.size cm (strL key) ∧ Apart (_) (some ⟨wk.heap.size, 0, none⟩) key.size) := ⟨hbm, HP.out.new⟩
        replace HP := Bx.mk (HP.out.below hbv)
        try replace HN := Bx.mk (HN.out.below hbv)
        clear hcv hbv hbm hk
        generalize wk.heap.size = G2 at HM ⊢
        obtain ⟨wk, hwk⟩ : ∃ x, x = wv := ⟨_, rfl⟩
        subst hwk
        have hk := HP.out.s
        refine hK.out _ _ hk (fun _ => ?_)
        clear hK K
        try simp only [Act.put, List.setIfInBounds_toArray, List.set_cons_zero, List.set_cons_succ]
        refine wpAnyH_ready (rs := [6]) (by decide +kernel) (by simp) ?_
        refine AllReadyH.cons (o := ⟨some 13, .call { callee := .value (.func 321), args := #[.tmp 9, .tmp 12], argTypes := #[34, 34] }, 34, "store.go:89", #[⟨2, .data⟩, ⟨5, .data⟩, ⟨2, .chain⟩], none⟩) rfl (fun K hK => ?_) AllReadyH.nil
        go_simp
        refine (putbytes_any base _ _ _ _ _ _ (strL key) _ HP.out.own HM.out.1 HM.out.2 HP.out.bs (by omega)).mono ?_
        rintro e7 w7 ⟨v7, rfl, hown7, hk7, hl7⟩
        replace HP := Bx.mk (HP.out.app hk7 hl7 hown7)
        clear hown7 hk7 hl7 HM hk
        have hk := HP.out.s
        refine hK.out _ _ hk (fun _ => ?_)
        clear hK K
        try simp only [Act.put, List.setIfInBounds_toArray, List.set_cons_zero, List.set_cons_succ]
        refine wpAnyH_take (i := 7) (oi := ⟨some 4, .assign (.tmp 13), 34, "store.go:89", #[⟨6, .data⟩, ⟨6, .chain⟩, ⟨0, .phase⟩, ⟨1, .phase⟩, ⟨2, .phase⟩, ⟨3, .phase⟩, ⟨4, .phase⟩, ⟨5, .phase⟩, ⟨6, .phase⟩], none⟩) (v := ?vpch25) rfl (by kernel_rfl) (by kernel_rfl) (by kernel_rfl) (fun _ _ _ h => h) (Or.inl ⟨by rfl, ?ypch25⟩) hk ?rpch25
        case ypch25 => (intro w hSw; (try dsimp only at hSw); go_simp; first | done | with_reducible rfl)
        simp only [Act.put, List.setIfInBounds_toArray, List.set_cons_zero, List.set_cons_succ]
        refine wpAnyH_done (by decide +kernel) ?_ _
        have hfin : w7.ownsRow base 5 1 v7 (n + (chgL ⟨key, true, val⟩).length) (bv (l ++ chgL ⟨key, true, val⟩)) := by
          have e1 : n + (chgL ⟨key, true, val⟩).length = n + 1 + ((varL key.size).length + key.size) := by rw [HR.out, List.length_cons, List.length_append, strL_length]; omega
          have e2 : l ++ chgL ⟨key, true, val⟩ = l ++ [1] ++ (varL key.size ++ strL key) := by rw [HR.out]; simp
          rw [e1, e2]; exact HP.out.own
        have hlow := HP.out.low
        obtain ⟨a9, n9, c9, rfl⟩ := own_form HP.out.own
        clear HP hk
        go_wp2_with fail
        go_ret
        exact ⟨_, rfl, hfin, hlow⟩
      · rw [if_pos (by rfl)]
        obtain ⟨cm, wv, hcv, hbv, hbm⟩ := conv_bytes wk key hks
        go_simp
        have HM : Bx (Bts wv (some ⟨wk.heap.size, 0, none⟩) key.size cm (strL key) ∧ Apart (_) (some ⟨wk.heap.size, 0, none⟩) key.size) := ⟨hbm, HP.out.new⟩
        replace HP := Bx.mk (HP.out.below hbv)
        try replace HN := Bx.mk (HN.out.below hbv)
        clear hcv hbv hbm hk
        generalize wk.heap.size = G2 at HM ⊢
        obtain ⟨wk, hwk⟩ : ∃ x, x = wv := ⟨_, rfl⟩
        subst hwk
        have hk := HP.out.s
        refine hK.out _ _ hk (fun _ => ?_)
        clear hK K
        try simp only [Act.put, List.setIfInBounds_toArray, List.set_cons_zero, List.set_cons_succ]
        refine wpAnyH_ready (rs := [2]) (by decide +kernel) (by simp) ?_
        refine AllReadyH.cons (o := ⟨some 9, .call { callee := .builtin Builtin.append, args := #[.tmp 7, .tmp 8], argTypes := #[34, 34] }, 34, "store.go:89", #[⟨0, .data⟩, ⟨1, .data⟩], none⟩) rfl (fun K hK => ?_) AllReadyH.nil
        refine step_append_btsL rfl (.tmp 7) (.tmp 8) rfl base n _ l rfl HP.out.own (some ⟨G, 0, none⟩) 1 1 [1] rfl HN.out (.inr (by omega)) (by omega) HP.out.bs ?_
        intro v6 w6 hown6 hk6 hl6
        replace HP : Bx (PCs base w w6 bx #[.string key, .bool true, .slice ai ni ci] v6 (n + 1) (l ++ [1])) := ⟨HP.out.app hk6 hl6 hown6⟩
        try replace HM : Bx (Bts w6 (some ⟨G2, 0, none⟩) key.size cm (strL key) ∧ Apart v6 (some ⟨G2, 0, none⟩) key.size) := ⟨HM.out.1.apart hk6 HM.out.2, HM.out.2.lies HM.out.1 hl6⟩
        clear hown6 hk6 hl6 HN hk
        obtain ⟨wk, hwk⟩ : ∃ x, x = w6 := ⟨_, rfl⟩
        subst hwk
        obtain ⟨V, hVV⟩ : ∃ x, x = v6 := ⟨_, rfl⟩
        subst hVV
        have hk := HP.out.s
        refine hK.out _ _ hk (fun _ => ?_)
        clear hK K
        try simp only [Act.put, List.setIfInBounds_toArray, List.set_cons_zero, List.set_cons_succ]
        refine wpAnyH_ready (rs := [6]) (by decide +kernel) (by simp) ?_
        refine AllReadyH.cons (o := ⟨some 13, .call { callee := .value (.func 321), args := #[.tmp 9, .tmp 12], argTypes := #[34, 34] }, 34, "store.go:89", #[⟨2, .data⟩, ⟨5, .data⟩, ⟨2, .chain⟩], none⟩) rfl (fun K hK => ?_) AllReadyH.nil
        go_simp
        refine (putbytes_any base _ _ _ _ _ _ (strL key) _ HP.out.own HM.out.1 HM.out.2 HP.out.bs (by omega)).mono ?_
        rintro e7 w7 ⟨v7, rfl, hown7, hk7, hl7⟩
        replace HP := Bx.mk (HP.out.app hk7 hl7 hown7)
        clear hown7 hk7 hl7 HM hk
        have hk := HP.out.s
        refine hK.out _ _ hk (fun _ => ?_)
        clear hK K
        try simp only [Act.put, List.setIfInBounds_toArray, List.set_cons_zero, List.set_cons_succ]
        refine wpAnyH_take (i := 7) (oi := ⟨some 4, .assign (.tmp 13), 34, "store.go:89", #[⟨6, .data⟩, ⟨6, .chain⟩, ⟨0, .phase⟩, ⟨1, .phase⟩, ⟨2, .phase⟩, ⟨3, .phase⟩, ⟨4, .phase⟩, ⟨5, .phase⟩, ⟨6, .phase⟩], none⟩) (v := ?vpch27) rfl (by kernel_rfl) (by kernel_rfl) (by kernel_rfl) (fun _ _ _ h => h) (Or.inl ⟨by rfl, ?ypch27⟩) hk ?rpch27
        case ypch27 => (intro w hSw; (try dsimp only at hSw); go_simp; first | done | with_reducible rfl)
        simp only [Act.put, List.setIfInBounds_toArray, List.set_cons_zero, List.set_cons_succ]
        refine wpAnyH_done (by decide +kernel) ?_ _
        have hfin : w7.ownsRow base 5 1 v7 (n + (chgL ⟨key, true, val⟩).length) (bv (l ++ chgL ⟨key, true, val⟩)) := by
          have e1 : n + (chgL ⟨key, true, val⟩).length = n + 1 + ((varL key.size).length + key.size) := by rw [HR.out, List.length_cons, List.length_append, strL_length]; omega
          have e2 : l ++ chgL ⟨key, true, val⟩ = l ++ [1] ++ (varL key.size ++ strL key) := by rw [HR.out]; simp
          rw [e1, e2]; exact HP.out.own
        have hlow := HP.out.low
        obtain ⟨a9, n9, c9, rfl⟩ := own_form HP.out.own
        clear HP hk
        go_wp2_with fail
        go_ret
        exact ⟨_, rfl, hfin, hlow⟩
    · rw [if_pos (by rfl)]
      obtain ⟨cm, wv, hcv, hbv, hbm⟩ := conv_bytes wk key hks
      go_simp
      have HM : Bx (Bts wv (some ⟨wk.heap.size, 0, none⟩) key.size cm (strL key) ∧ Apart (_) (some ⟨wk.heap.size, 0, none⟩) key.size) := ⟨hbm, HP.out.new⟩
      replace HP := Bx.mk (HP.out.below hbv)
      try replace HN := Bx.mk (HN.out.below hbv)
      clear hcv hbv hbm hk
      generalize wk.heap.size = G2 at HM ⊢
      obtain ⟨wk, hwk⟩ : ∃ x, x = wv := ⟨_, rfl⟩
      subst hwk
      have hk := HP.out.s
      refine hK.out _ _ hk (fun _ => ?_)
      clear hK K
      try simp only [Act.put, List.setIfInBounds_toArray, List.set_cons_zero, List.set_cons_succ]
      refine wpAnyH_ready (rs := [1]) (by decide +kernel) (by simp) ?_
      refine AllReadyH.cons (o := ⟨some 8, .buildSlice 34 1 #[(0, .const (Value.int IntKind.u8 1))], 34, "store.go:89", #[], none⟩) rfl (fun K hK => ?_) AllReadyH.nil
      go_simp
      have hbA : Below wk.heap.size wk (wk.alloc (.cells #[.int .u8 1] 5)) := (Below.refl _ _).alloc (Nat.le_refl _) _
      have HN : Bx (Bts (wk.alloc (.cells #[.int .u8 1] 5)) (some ⟨wk.heap.size, 0, none⟩) 1 1 [1]) := ⟨bts_oneS wk _ (by decide)⟩
      replace HP : Bx (PCs base w (wk.alloc (.cells #[.int .u8 1] 5)) bx #[.string key, .bool true, .slice ai ni ci] V n l) := ⟨HP.out.below hbA⟩
      try replace HM : Bx (Bts (wk.alloc (.cells #[.int .u8 1] 5)) (some ⟨G2, 0, none⟩) key.size cm (strL key) ∧ Apart V (some ⟨G2, 0, none⟩) key.size) := ⟨HM.out.1.below hbA, HM.out.2⟩
      clear hbA hk
      generalize wk.heap.size = G at HN ⊢
      first | generalize wk.alloc (.cells #[.int .u8 1] 5) = wk at HN HP HM ⊢ | generalize wk.alloc (.cells #[.int .u8 1] 5) = wk at HN HP ⊢
      have hk := HP.out.s
      refine hK.out _ _ hk (fun _ => ?_)
      clear hK K
      try simp only [Act.put, List.setIfInBounds_toArray, List.set_cons_zero, List.set_cons_succ]
      refine wpAnyH_ready (rs := [2]) (by decide +kernel) (by simp) ?_
      refine AllReadyH.cons (o := ⟨some 9, .call { callee := .builtin Builtin.append, args := #[.tmp 7, .tmp 8], argTypes := #[34, 34] }, 34, "store.go:89", #[⟨0, .data⟩, ⟨1, .data⟩], none⟩) rfl (fun K hK => ?_) AllReadyH.nil
      refine step_append_btsL rfl (.tmp 7) (.tmp 8) rfl base n _ l rfl HP.out.own (some ⟨G, 0, none⟩) 1 1 [1] rfl HN.out (.inr (by omega)) (by omega) HP.out.bs ?_
      intro v6 w6 hown6 hk6 hl6
      replace HP : Bx (PCs base w w6 bx #[.string key, .bool true, .slice ai ni ci] v6 (n + 1) (l ++ [1])) := ⟨HP.out.app hk6 hl6 hown6⟩
      try replace HM : Bx (Bts w6 (some ⟨G2, 0, none⟩) key.size cm (strL key) ∧ Apart v6 (some ⟨G2, 0, none⟩) key.size) := ⟨HM.out.1.apart hk6 HM.out.2, HM.out.2.lies HM.out.1 hl6⟩
      clear hown6 hk6 hl6 HN hk
      obtain ⟨wk, hwk⟩ : ∃ x, x = w6 := ⟨_, rfl⟩
      subst hwk
      obtain ⟨V, hVV⟩ : ∃ x, x = v6 := ⟨_, rfl⟩
      subst hVV
      have hk := HP.out.s
      refine hK.out _ _ hk (fun _ => ?_)
      clear hK K
      try simp only [Act.put, List.setIfInBounds_toArray, List.set_cons_zero, List.set_cons_succ]
      refine wpAnyH_ready (rs := [6]) (by decide +kernel) (by simp) ?_
      refine AllReadyH.cons (o := ⟨some 13, .call { callee := .value (.func 321), args := #[.tmp 9, .tmp 12], argTypes := #[34, 34] }, 34, "store.go:89", #[⟨2, .data⟩, ⟨5, .data⟩, ⟨2, .chain⟩], none⟩) rfl (fun K hK => ?_) AllReadyH.nil
      go_simp
      refine (putbytes_any base _ _ _ _ _ _ (strL key) _ HP.out.own HM.out.1 HM.out.2 HP.out.bs (by omega)).mono ?_
      rintro e7 w7 ⟨v7, rfl, hown7, hk7, hl7⟩
      replace HP := Bx.mk (HP.out.app hk7 hl7 hown7)
      clear hown7 hk7 hl7 HM hk
      have hk := HP.out.s
      refine hK.out _ _ hk (fun _ => ?_)
      clear hK K
      try simp only [Act.put, List.setIfInBounds_toArray, List.set_cons_zero, List.set_cons_succ]
      refine wpAnyH_take (i := 7) (oi := ⟨some 4, .assign (.tmp 13), 34, "store.go:89", #[⟨6, .data⟩, ⟨6, .chain⟩, ⟨0, .phase⟩, ⟨1, .phase⟩, ⟨2, .phase⟩, ⟨3, .phase⟩, ⟨4, .phase⟩, ⟨5, .phase⟩, ⟨6, .phase⟩], none⟩) (v := ?vpch29) rfl (by kernel_rfl) (by kernel_rfl) (by kernel_rfl) (fun _ _ _ h => h) (Or.inl ⟨by rfl, ?ypch29⟩) hk ?rpch29
      case ypch29 => (intro w hSw; (try dsimp only at hSw); go_simp; first | done | with_reducible rfl)
      simp only [Act.put, List.setIfInBounds_toArray, List.set_cons_zero, List.set_cons_succ]
      refine wpAnyH_done (by decide +kernel) ?_ _
      have hfin : w7.ownsRow base 5 1 v7 (n + (chgL ⟨key, true, val⟩).length) (bv (l ++ chgL ⟨key, true, val⟩)) := by
        have e1 : n + (chgL ⟨key, true, val⟩).length = n + 1 + ((varL key.size).length + key.size) := by rw [HR.out, List.length_cons, List.length_append, strL_length]; omega
        have e2 : l ++ chgL ⟨key, true, val⟩ = l ++ [1] ++ (varL key.size ++ strL key) := by rw [HR.out]; simp
        rw [e1, e2]; exact HP.out.own
      have hlow := HP.out.low
      obtain ⟨a9, n9, c9, rfl⟩ := own_form HP.out.own
      clear HP hk
      go_wp2_with fail
      go_ret
      exact ⟨_, rfl, hfin, hlow⟩
  | false =>
    have HR : Bx (chgL ⟨key, false, val⟩ = 0 :: (varL key.size ++ (strL key ++ (varL ni ++ val)))) := ⟨by rw [← hvl]; simp [chgL]⟩
    have HP := Bx.mk (HP0.out false rfl)
    have hvn := (varL_length ni).2
    clear hown hbt hlo HP0
    subst hVV
    go_enter Tryz.func286, Tryz.ntmps286
    go_wp2_with fail
    rw [← hbx] at HP ⊢
    have hk := HP.out.s
    generalize w.alloc (.cells #[.string key, .bool false, .slice ai ni ci] 167) = w0 at hk HP ⊢
    generalize Value.slice a0 n0 c0 = V at HP ⊢
    clear hbx
    refine wp_region_held_drew (S := fun W => W.cell? ⟨bx, 0, none⟩ = some (.string key) ∧ W.cell? ⟨bx, 2, none⟩ = some (.slice ai ni ci)) (by kernel_rfl) hk (fun _ => ?_)
    generalize hwk : w0.drew = wk at hk HP ⊢
    clear hwk
    refine wpAnyH_take (i := 0) (oi := ⟨some 14, .move (.tmp 0), 34, "store.go:91", #[], none⟩) (v := ?vpch31) rfl (by kernel_rfl) (by kernel_rfl) (by kernel_rfl) (fun _ _ _ h => h) (Or.inl ⟨by rfl, ?ypch31⟩) hk ?rpch31
    case ypch31 => (intro w hSw; (try dsimp only at hSw); go_simp; first | done | with_reducible rfl)
    simp only [Act.put, List.setIfInBounds_toArray, List.set_cons_zero, List.set_cons_succ]
    refine wpAnyH_take (i := 3) (oi := ⟨some 17, .fieldAddr 167 (.tmp 3) 0, 0, "store.go:91", #[], none⟩) (v := ?vpch32) rfl (by kernel_rfl) (by kernel_rfl) (by kernel_rfl) (fun _ _ _ h => h) (Or.inl ⟨by rfl, ?ypch32⟩) hk ?rpch32
    case ypch32 => (intro w hSw; (try dsimp only at hSw); go_simp; first | done | with_reducible rfl)
    simp only [Act.put, List.setIfInBounds_toArray, List.set_cons_zero, List.set_cons_succ]
    refine wpAnyH_take (i := 4) (oi := ⟨some 18, .load 9 (.tmp 17), 9, "store.go:91", #[⟨3, .data⟩], none⟩) (v := ?vpch33) rfl (by kernel_rfl) (by kernel_rfl) (by kernel_rfl) (fun _ _ _ h => h) (Or.inl ⟨by rfl, ?ypch33⟩) hk ?rpch33
    case ypch33 => (intro w hSw; have hcw := hSw.1; clear hSw; go_simp; first | done | with_reducible rfl)
    simp only [Act.put, List.setIfInBounds_toArray, List.set_cons_zero, List.set_cons_succ]
    refine wpAnyH_take (i := 7) (oi := ⟨some 21, .fieldAddr 167 (.tmp 3) 2, 0, "store.go:91", #[], none⟩) (v := ?vpch34) rfl (by kernel_rfl) (by kernel_rfl) (by kernel_rfl) (fun _ _ _ h => h) (Or.inl ⟨by rfl, ?ypch34⟩) hk ?rpch34
    case ypch34 => (intro w hSw; (try dsimp only at hSw); go_simp; first | done | with_reducible rfl)
    simp only [Act.put, List.setIfInBounds_toArray, List.set_cons_zero, List.set_cons_succ]
    refine wpAnyH_take (i := 8) (oi := ⟨some 22, .load 34 (.tmp 21), 34, "store.go:91", #[⟨7, .data⟩], none⟩) (v := ?vpch35) rfl (by kernel_rfl) (by kernel_rfl) (by kernel_rfl) (fun _ _ _ h => h) (Or.inl ⟨by rfl, ?ypch35⟩) hk ?rpch35
    case ypch35 => (intro w hSw; have hcw := hSw.2; clear hSw; go_simp; first | done | with_reducible rfl)
    simp only [Act.put, List.setIfInBounds_toArray, List.set_cons_zero, List.set_cons_succ]
    refine wpAnyH_ready (rs := [1, 5]) (by decide +kernel) (by simp) ?_
    refine (AllReadyH.cons (o := ⟨some 15, .buildSlice 34 1 #[(0, .const (Value.int IntKind.u8 0))], 34, "store.go:91", #[], none⟩) rfl (fun K hK => ?_) (AllReadyH.cons (o := ⟨some 19, .convert 9 34 (.tmp 18), 34, "store.go:91", #[⟨4, .data⟩], none⟩) rfl (fun K hK => ?_) AllReadyH.nil))
    · go_simp
      have hbA : Below wk.heap.size wk (wk.alloc (.cells #[.int .u8 0] 5)) := (Below.refl _ _).alloc (Nat.le_refl _) _
      have HN : Bx (Bts (wk.alloc (.cells #[.int .u8 0] 5)) (some ⟨wk.heap.size, 0, none⟩) 1 1 [0]) := ⟨bts_oneS wk _ (by decide)⟩
      replace HP : Bx (PCs base w (wk.alloc (.cells #[.int .u8 0] 5)) bx #[.string key, .bool false, .slice ai ni ci] V n l) := ⟨HP.out.below hbA⟩
      try replace HM : Bx (Bts (wk.alloc (.cells #[.int .u8 0] 5)) (some ⟨G2, 0, none⟩) key.size cm (strL key) ∧ Apart V (some ⟨G2, 0, none⟩) key.size) := ⟨HM.out.1.below hbA, HM.out.2⟩
      clear hbA hk
      generalize wk.heap.size = G at HN ⊢
      first | generalize wk.alloc (.cells #[.int .u8 0] 5) = wk at HN HP HM ⊢ | generalize wk.alloc (.cells #[.int .u8 0] 5) = wk at HN HP ⊢
      have hk := HP.out.s
      refine hK.out _ _ hk (fun _ => ?_)
      clear hK K
      try simp only [Act.put, List.setIfInBounds_toArray, List.set_cons_zero, List.set_cons_succ]
      refine wpAnyH_ready (rs := [2, 5]) (by decide +kernel) (by simp) ?_
      refine (AllReadyH.cons (o := ⟨some 16, .call { callee := .builtin Builtin.append, args := #[.tmp 14, .tmp 15], argTypes := #[34, 34] }, 34, "store.go:91", #[⟨0, .data⟩, ⟨1, .data⟩], none⟩) rfl (fun K hK => ?_) (AllReadyH.cons (o := ⟨some 19, .convert 9 34 (.tmp 18), 34, "store.go:91", #[⟨4, .data⟩], none⟩) rfl (fun K hK => ?_) AllReadyH.nil))
      · refine step_append_btsL rfl (.tmp 14) (.tmp 15) rfl base n _ l rfl HP.out.own (some ⟨G, 0, none⟩) 1 1 [0] rfl HN.out (.inr (by omega)) (by omega) HP.out.bs ?_
        intro v6 w6 hown6 hk6 hl6
        replace HP : Bx (PCs base w w6 bx #[.string key, .bool false, .slice ai ni ci] v6 (n + 1) (l ++ [0])) := ⟨HP.out.app hk6 hl6 hown6⟩
        try replace HM : Bx (Bts w6 (some ⟨G2, 0, none⟩) key.size cm (strL key) ∧ Apart v6 (some ⟨G2, 0, none⟩) key.size) := ⟨HM.out.1.apart hk6 HM.out.2, HM.out.2.lies HM.out.1 hl6⟩
        clear hown6 hk6 hl6 HN hk
        obtain ⟨wk, hwk⟩ : ∃ x, x = w6 := ⟨_, rfl⟩
        subst hwk
        obtain ⟨V, hVV⟩ : ∃ x, x = v6 := ⟨_, rfl⟩
        subst hVV
        have hk := HP.out.s
        refine hK.out _ _ hk (fun _ => ?_)
        clear hK K
        try simp only [Act.put, List.setIfInBounds_toArray, List.set_cons_zero, List.set_cons_succ]
        refine wpAnyH_ready (rs := [5]) (by decide +kernel) (by simp) ?_
        refine AllReadyH.cons (o := ⟨some 19, .convert 9 34 (.tmp 18), 34, "store.go:91", #[⟨4, .data⟩], none⟩) rfl (fun K hK => ?_) AllReadyH.nil
        rw [if_pos (by rfl)]
        obtain ⟨cm, wv, hcv, hbv, hbm⟩ := conv_bytes wk key hks
        go_simp
        have HM : Bx (Bts wv (some ⟨wk.heap.size, 0, none⟩) key.size cm (strL key) ∧ Apart (_) (some ⟨wk.heap.size, 0, none⟩) key.size) := ⟨hbm, HP.out.new⟩
        replace HP := Bx.mk (HP.out.below hbv)
        try replace HN := Bx.mk (HN.out.below hbv)
        clear hcv hbv hbm hk
        generalize wk.heap.size = G2 at HM ⊢
        obtain ⟨wk, hwk⟩ : ∃ x, x = wv := ⟨_, rfl⟩
        subst hwk
        have hk := HP.out.s
        refine hK.out _ _ hk (fun _ => ?_)
        clear hK K
        try simp only [Act.put, List.setIfInBounds_toArray, List.set_cons_zero, List.set_cons_succ]
        refine wpAnyH_ready (rs := [6]) (by decide +kernel) (by simp) ?_
        refine AllReadyH.cons (o := ⟨some 20, .call { callee := .value (.func 321), args := #[.tmp 16, .tmp 19], argTypes := #[34, 34] }, 34, "store.go:91", #[⟨2, .data⟩, ⟨5, .data⟩, ⟨2, .chain⟩], none⟩) rfl (fun K hK => ?_) AllReadyH.nil
        go_simp
        refine (putbytes_any base _ _ _ _ _ _ (strL key) _ HP.out.own HM.out.1 HM.out.2 HP.out.bs (by omega)).mono ?_
        rintro e7 w7 ⟨v7, rfl, hown7, hk7, hl7⟩
        replace HP := Bx.mk (HP.out.app hk7 hl7 hown7)
        clear hown7 hk7 hl7 HM hk
        have hk := HP.out.s
        refine hK.out _ _ hk (fun _ => ?_)
        clear hK K
        try simp only [Act.put, List.setIfInBounds_toArray, List.set_cons_zero, List.set_cons_succ]
        refine wpAnyH_ready (rs := [9]) (by decide +kernel) (by simp) ?_
        refine AllReadyH.cons (o := ⟨some 23, .call { callee := .value (.func 321), args := #[.tmp 20, .tmp 22], argTypes := #[34, 34] }, 34, "store.go:91", #[⟨6, .data⟩, ⟨8, .data⟩, ⟨6, .chain⟩], none⟩) rfl (fun K hK => ?_) AllReadyH.nil
        go_simp
        obtain ⟨hvb, hva⟩ := HV.out _ HP.out.low
        refine (putbytes_any base _ _ _ _ _ _ val _ HP.out.own hvb (hva _ (fun g hg => (HP.out.own.lt g hg).1)) HP.out.bs (by omega)).mono ?_
        rintro e8 w8 ⟨v8, rfl, hown8, hk8, hl8⟩
        replace HP := Bx.mk (HP.out.app hk8 hl8 hown8)
        clear hown8 hk8 hl8 hk hvb hva
        have hk := HP.out.s
        refine hK.out _ _ hk (fun _ => ?_)
        clear hK K
        try simp only [Act.put, List.setIfInBounds_toArray, List.set_cons_zero, List.set_cons_succ]
        refine wpAnyH_take (i := 10) (oi := ⟨some 4, .assign (.tmp 23), 34, "store.go:91", #[⟨9, .data⟩, ⟨9, .chain⟩, ⟨0, .phase⟩, ⟨1, .phase⟩, ⟨2, .phase⟩, ⟨3, .phase⟩, ⟨4, .phase⟩, ⟨5, .phase⟩, ⟨6, .phase⟩, ⟨7, .phase⟩, ⟨8, .phase⟩, ⟨9, .phase⟩], none⟩) (v := ?vpch37) rfl (by kernel_rfl) (by kernel_rfl) (by kernel_rfl) (fun _ _ _ h => h) (Or.inl ⟨by rfl, ?ypch37⟩) hk ?rpch37
        case ypch37 => (intro w hSw; (try dsimp only at hSw); go_simp; first | done | with_reducible rfl)
        simp only [Act.put, List.setIfInBounds_toArray, List.set_cons_zero, List.set_cons_succ]
        refine wpAnyH_done (by decide +kernel) ?_ _
        have hfin : w8.ownsRow base 5 1 v8 (n + (chgL ⟨key, false, val⟩).length) (bv (l ++ chgL ⟨key, false, val⟩)) := by
          have e1 : n + (chgL ⟨key, false, val⟩).length = n + 1 + ((varL key.size).length + key.size) + ((varL ni).length + ni) := by rw [HR.out, List.length_cons, List.length_append, List.length_append, List.length_append, strL_length, hvl]; omega
          have e2 : l ++ chgL ⟨key, false, val⟩ = l ++ [0] ++ (varL key.size ++ strL key) ++ (varL ni ++ val) := by rw [HR.out]; simp
          rw [e1, e2]; exact HP.out.own
        have hlow := HP.out.low
        obtain ⟨a9, n9, c9, rfl⟩ := own_form HP.out.own
        clear HP hk
        go_wp2_with fail
        go_ret
        exact ⟨_, rfl, hfin, hlow⟩
      · rw [if_pos (by rfl)]
        obtain ⟨cm, wv, hcv, hbv, hbm⟩ := conv_bytes wk key hks
        go_simp
        have HM : Bx (Bts wv (some ⟨wk.heap.size, 0, none⟩) key.size cm (strL key) ∧ Apart (_) (some ⟨wk.heap.size, 0, none⟩) key.size) := ⟨hbm, HP.out.new⟩
        replace HP := Bx.mk (HP.out.below hbv)
        try replace HN := Bx.mk (HN.out.below hbv)
        clear hcv hbv hbm hk
        generalize wk.heap.size = G2 at HM ⊢
        obtain ⟨wk, hwk⟩ : ∃ x, x = wv := ⟨_, rfl⟩
        subst hwk
        have hk := HP.out.s
        refine hK.out _ _ hk (fun _ => ?_)
        clear hK K
        try simp only [Act.put, List.setIfInBounds_toArray, List.set_cons_zero, List.set_cons_succ]
        refine wpAnyH_ready (rs := [2]) (by decide +kernel) (by simp) ?_
        refine AllReadyH.cons (o := ⟨some 16, .call { callee := .builtin Builtin.append, args := #[.tmp 14, .tmp 15], argTypes := #[34, 34] }, 34, "store.go:91", #[⟨0, .data⟩, ⟨1, .data⟩], none⟩) rfl (fun K hK => ?_) AllReadyH.nil
        refine step_append_btsL rfl (.tmp 14) (.tmp 15) rfl base n _ l rfl HP.out.own (some ⟨G, 0, none⟩) 1 1 [0] rfl HN.out (.inr (by omega)) (by omega) HP.out.bs ?_
        intro v6 w6 hown6 hk6 hl6
        replace HP : Bx (PCs base w w6 bx #[.string key, .bool false, .slice ai ni ci] v6 (n + 1) (l ++ [0])) := ⟨HP.out.app hk6 hl6 hown6⟩
        try replace HM : Bx (Bts w6 (some ⟨G2, 0, none⟩) key.size cm (strL key) ∧ Apart v6 (some ⟨G2, 0, none⟩) key.size) := ⟨HM.out.1.apart hk6 HM.out.2, HM.out.2.lies HM.out.1 hl6⟩
        clear hown6 hk6 hl6 HN hk
        obtain ⟨wk, hwk⟩ : ∃ x, x = w6 := ⟨_, rfl⟩
        subst hwk
        obtain ⟨V, hVV⟩ : ∃ x, x = v6 := ⟨_, rfl⟩
        subst hVV
        have hk := HP.out.s
        refine hK.out _ _ hk (fun _ => ?_)
        clear hK K
        try simp only [Act.put, List.setIfInBounds_toArray, List.set_cons_zero, List.set_cons_succ]
        refine wpAnyH_ready (rs := [6]) (by decide +kernel) (by simp) ?_
        refine AllReadyH.cons (o := ⟨some 20, .call { callee := .value (.func 321), args := #[.tmp 16, .tmp 19], argTypes := #[34, 34] }, 34, "store.go:91", #[⟨2, .data⟩, ⟨5, .data⟩, ⟨2, .chain⟩], none⟩) rfl (fun K hK => ?_) AllReadyH.nil
        go_simp
        refine (putbytes_any base _ _ _ _ _ _ (strL key) _ HP.out.own HM.out.1 HM.out.2 HP.out.bs (by omega)).mono ?_
        rintro e7 w7 ⟨v7, rfl, hown7, hk7, hl7⟩
        replace HP := Bx.mk (HP.out.app hk7 hl7 hown7)
        clear hown7 hk7 hl7 HM hk
        have hk := HP.out.s
        refine hK.out _ _ hk (fun _ => ?_)
        clear hK K
        try simp only [Act.put, List.setIfInBounds_toArray, List.set_cons_zero, List.set_cons_succ]
        refine wpAnyH_ready (rs := [9]) (by decide +kernel) (by simp) ?_
        refine AllReadyH.cons (o := ⟨some 23, .call { callee := .value (.func 321), args := #[.tmp 20, .tmp 22], argTypes := #[34, 34] }, 34, "store.go:91", #[⟨6, .data⟩, ⟨8, .data⟩, ⟨6, .chain⟩], none⟩) rfl (fun K hK => ?_) AllReadyH.nil
        go_simp
        obtain ⟨hvb, hva⟩ := HV.out _ HP.out.low
        refine (putbytes_any base _ _ _ _ _ _ val _ HP.out.own hvb (hva _ (fun g hg => (HP.out.own.lt g hg).1)) HP.out.bs (by omega)).mono ?_
        rintro e8 w8 ⟨v8, rfl, hown8, hk8, hl8⟩
        replace HP := Bx.mk (HP.out.app hk8 hl8 hown8)
        clear hown8 hk8 hl8 hk hvb hva
        have hk := HP.out.s
        refine hK.out _ _ hk (fun _ => ?_)
        clear hK K
        try simp only [Act.put, List.setIfInBounds_toArray, List.set_cons_zero, List.set_cons_succ]
        refine wpAnyH_take (i := 10) (oi := ⟨some 4, .assign (.tmp 23), 34, "store.go:91", #[⟨9, .data⟩, ⟨9, .chain⟩, ⟨0, .phase⟩, ⟨1, .phase⟩, ⟨2, .phase⟩, ⟨3, .phase⟩, ⟨4, .phase⟩, ⟨5, .phase⟩, ⟨6, .phase⟩, ⟨7, .phase⟩, ⟨8, .phase⟩, ⟨9, .phase⟩], none⟩) (v := ?vpch39) rfl (by kernel_rfl) (by kernel_rfl) (by kernel_rfl) (fun _ _ _ h => h) (Or.inl ⟨by rfl, ?ypch39⟩) hk ?rpch39
        case ypch39 => (intro w hSw; (try dsimp only at hSw); go_simp; first | done | with_reducible rfl)
        simp only [Act.put, List.setIfInBounds_toArray, List.set_cons_zero, List.set_cons_succ]
        refine wpAnyH_done (by decide +kernel) ?_ _
        have hfin : w8.ownsRow base 5 1 v8 (n + (chgL ⟨key, false, val⟩).length) (bv (l ++ chgL ⟨key, false, val⟩)) := by
          have e1 : n + (chgL ⟨key, false, val⟩).length = n + 1 + ((varL key.size).length + key.size) + ((varL ni).length + ni) := by rw [HR.out, List.length_cons, List.length_append, List.length_append, List.length_append, strL_length, hvl]; omega
          have e2 : l ++ chgL ⟨key, false, val⟩ = l ++ [0] ++ (varL key.size ++ strL key) ++ (varL ni ++ val) := by rw [HR.out]; simp
          rw [e1, e2]; exact HP.out.own
        have hlow := HP.out.low
        obtain ⟨a9, n9, c9, rfl⟩ := own_form HP.out.own
        clear HP hk
        go_wp2_with fail
        go_ret
        exact ⟨_, rfl, hfin, hlow⟩
    · rw [if_pos (by rfl)]
      obtain ⟨cm, wv, hcv, hbv, hbm⟩ := conv_bytes wk key hks
      go_simp
      have HM : Bx (Bts wv (some ⟨wk.heap.size, 0, none⟩) key.size cm (strL key) ∧ Apart (_) (some ⟨wk.heap.size, 0, none⟩) key.size) := ⟨hbm, HP.out.new⟩
      replace HP := Bx.mk (HP.out.below hbv)
      try replace HN := Bx.mk (HN.out.below hbv)
      clear hcv hbv hbm hk
      generalize wk.heap.size = G2 at HM ⊢
      obtain ⟨wk, hwk⟩ : ∃ x, x = wv := ⟨_, rfl⟩
      subst hwk
      have hk := HP.out.s
      refine hK.out _ _ hk (fun _ => ?_)
      clear hK K
      try simp only [Act.put, List.setIfInBounds_toArray, List.set_cons_zero, List.set_cons_succ]
      refine wpAnyH_ready (rs := [1]) (by decide +kernel) (by simp) ?_
      refine AllReadyH.cons (o := ⟨some 15, .buildSlice 34 1 #[(0, .const (Value.int IntKind.u8 0))], 34, "store.go:91", #[], none⟩) rfl (fun K hK => ?_) AllReadyH.nil
      go_simp
      have hbA : Below wk.heap.size wk (wk.alloc (.cells #[.int .u8 0] 5)) := (Below.refl _ _).alloc (Nat.le_refl _) _
      have HN : Bx (Bts (wk.alloc (.cells #[.int .u8 0] 5)) (some ⟨wk.heap.size, 0, none⟩) 1 1 [0]) := ⟨bts_oneS wk _ (by decide)⟩
      replace HP : Bx (PCs base w (wk.alloc (.cells #[.int .u8 0] 5)) bx #[.string key, .bool false, .slice ai ni ci] V n l) := ⟨HP.out.below hbA⟩
      try replace HM : Bx (Bts (wk.alloc (.cells #[.int .u8 0] 5)) (some ⟨G2, 0, none⟩) key.size cm (strL key) ∧ Apart V (some ⟨G2, 0, none⟩) key.size) := ⟨HM.out.1.below hbA, HM.out.2⟩
      clear hbA hk
      generalize wk.heap.size = G at HN ⊢
      first | generalize wk.alloc (.cells #[.int .u8 0] 5) = wk at HN HP HM ⊢ | generalize wk.alloc (.cells #[.int .u8 0] 5) = wk at HN HP ⊢
      have hk := HP.out.s
      refine hK.out _ _ hk (fun _ => ?_)
      clear hK K
      try simp only [Act.put, List.setIfInBounds_toArray, List.set_cons_zero, List.set_cons_succ]
      refine wpAnyH_ready (rs := [2]) (by decide +kernel) (by simp) ?_
      refine AllReadyH.cons (o := ⟨some 16, .call { callee := .builtin Builtin.append, args := #[.tmp 14, .tmp 15], argTypes := #[34, 34] }, 34, "store.go:91", #[⟨0, .data⟩, ⟨1, .data⟩], none⟩) rfl (fun K hK => ?_) AllReadyH.nil
      refine step_append_btsL rfl (.tmp 14) (.tmp 15) rfl base n _ l rfl HP.out.own (some ⟨G, 0, none⟩) 1 1 [0] rfl HN.out (.inr (by omega)) (by omega) HP.out.bs ?_
      intro v6 w6 hown6 hk6 hl6
      replace HP : Bx (PCs base w w6 bx #[.string key, .bool false, .slice ai ni ci] v6 (n + 1) (l ++ [0])) := ⟨HP.out.app hk6 hl6 hown6⟩
      try replace HM : Bx (Bts w6 (some ⟨G2, 0, none⟩) key.size cm (strL key) ∧ Apart v6 (some ⟨G2, 0, none⟩) key.size) := ⟨HM.out.1.apart hk6 HM.out.2, HM.out.2.lies HM.out.1 hl6⟩
      clear hown6 hk6 hl6 HN hk
      obtain ⟨wk, hwk⟩ : ∃ x, x = w6 := ⟨_, rfl⟩
      subst hwk
      obtain ⟨V, hVV⟩ : ∃ x, x = v6 := ⟨_, rfl⟩
      subst hVV
      have hk := HP.out.s
      refine hK.out _ _ hk (fun _ => ?_)
      clear hK K
      try simp only [Act.put, List.setIfInBounds_toArray, List.set_cons_zero, List.set_cons_succ]
      refine wpAnyH_ready (rs := [6]) (by decide +kernel) (by simp) ?_
      refine AllReadyH.cons (o := ⟨some 20, .call { callee := .value (.func 321), args := #[.tmp 16, .tmp 19], argTypes := #[34, 34] }, 34, "store.go:91", #[⟨2, .data⟩, ⟨5, .data⟩, ⟨2, .chain⟩], none⟩) rfl (fun K hK => ?_) AllReadyH.nil
      go_simp
      refine (putbytes_any base _ _ _ _ _ _ (strL key) _ HP.out.own HM.out.1 HM.out.2 HP.out.bs (by omega)).mono ?_
      rintro e7 w7 ⟨v7, rfl, hown7, hk7, hl7⟩
      replace HP := Bx.mk (HP.out.app hk7 hl7 hown7)
      clear hown7 hk7 hl7 HM hk
      have hk := HP.out.s
      refine hK.out _ _ hk (fun _ => ?_)
      clear hK K
      try simp only [Act.put, List.setIfInBounds_toArray, List.set_cons_zero, List.set_cons_succ]
      refine wpAnyH_ready (rs := [9]) (by decide +kernel) (by simp) ?_
      refine AllReadyH.cons (o := ⟨some 23, .call { callee := .value (.func 321), args := #[.tmp 20, .tmp 22], argTypes := #[34, 34] }, 34, "store.go:91", #[⟨6, .data⟩, ⟨8, .data⟩, ⟨6, .chain⟩], none⟩) rfl (fun K hK => ?_) AllReadyH.nil
      go_simp
      obtain ⟨hvb, hva⟩ := HV.out _ HP.out.low
      refine (putbytes_any base _ _ _ _ _ _ val _ HP.out.own hvb (hva _ (fun g hg => (HP.out.own.lt g hg).1)) HP.out.bs (by omega)).mono ?_
      rintro e8 w8 ⟨v8, rfl, hown8, hk8, hl8⟩
      replace HP := Bx.mk (HP.out.app hk8 hl8 hown8)
      clear hown8 hk8 hl8 hk hvb hva
      have hk := HP.out.s
      refine hK.out _ _ hk (fun _ => ?_)
      clear hK K
      try simp only [Act.put, List.setIfInBounds_toArray, List.set_cons_zero, List.set_cons_succ]
      refine wpAnyH_take (i := 10) (oi := ⟨some 4, .assign (.tmp 23), 34, "store.go:91", #[⟨9, .data⟩, ⟨9, .chain⟩, ⟨0, .phase⟩, ⟨1, .phase⟩, ⟨2, .phase⟩, ⟨3, .phase⟩, ⟨4, .phase⟩, ⟨5, .phase⟩, ⟨6, .phase⟩, ⟨7, .phase⟩, ⟨8, .phase⟩, ⟨9, .phase⟩], none⟩) (v := ?vpch311) rfl (by kernel_rfl) (by kernel_rfl) (by kernel_rfl) (fun _ _ _ h => h) (Or.inl ⟨by rfl, ?ypch311⟩) hk ?rpch311
      case ypch311 => (intro w hSw; (try dsimp only at hSw); go_simp; first | done | with_reducible rfl)
      simp only [Act.put, List.setIfInBounds_toArray, List.set_cons_zero, List.set_cons_succ]
      refine wpAnyH_done (by decide +kernel) ?_ _
      have hfin : w8.ownsRow base 5 1 v8 (n + (chgL ⟨key, false, val⟩).length) (bv (l ++ chgL ⟨key, false, val⟩)) := by
        have e1 : n + (chgL ⟨key, false, val⟩).length = n + 1 + ((varL key.size).length + key.size) + ((varL ni).length + ni) := by rw [HR.out, List.length_cons, List.length_append, List.length_append, List.length_append, strL_length, hvl]; omega
        have e2 : l ++ chgL ⟨key, false, val⟩ = l ++ [0] ++ (varL key.size ++ strL key) ++ (varL ni ++ val) := by rw [HR.out]; simp
        rw [e1, e2]; exact HP.out.own
      have hlow := HP.out.low
      obtain ⟨a9, n9, c9, rfl⟩ := own_form HP.out.own
      clear HP hk
      go_wp2_with fail
      go_ret
      exact ⟨_, rfl, hfin, hlow⟩
end Go.Proofs.YtipakjenggeflaaGreatDoor
namespace Go.Proofs.YtipakjenggeflaaGreatDoor
open Go.RowKit
set_option linter.unusedVariables false

/-- what Encode answers -/
def encR (L : List Chg) : List Int := if chkL L = 0 then encL L else []
/-- the text of the first k -/
def encP (L : List Chg) (k : Nat) : List Int := varL L.length ++ (L.take k).flatMap chgL
set_option maxRecDepth 100000 in
theorem encP_step (L : List Chg) (k : Nat) (h : k < L.length) : encP L (k + 1) = encP L k ++ chgL L[k] := by
  unfold encP
  rw [List.take_succ_eq_append_getElem h, List.flatMap_append]; simp
set_option maxRecDepth 100000 in
theorem encP_all (L : List Chg) (k : Nat) (h : L.length ≤ k) : encP L k = encL L := by
  unfold encP encL
  rw [List.take_of_length_le h]
set_option maxRecDepth 100000 in
theorem encP_length {L : List Chg} (h : LOk L) (k : Nat) : (encP L k).length ≤ 70000 := by
  have h1 := flat_length (L.take k) (fun c hc => h.c c (List.mem_of_mem_take hc))
  have h2 := (varL_length L.length).2
  have := h.n2
  have h3 : (L.take k).length ≤ L.length := by rw [List.length_take]; omega
  unfold encP
  rw [List.length_append]
  omega
set_option maxRecDepth 100000 in
set_option maxHeartbeats 2000000 in
theorem encode_any (B : Nat → Prop) (ao : Option Addr) (len cap : Nat) (L : List Chg) (w : World) (h : CT B w ao len cap L) (hks : ∀ c ∈ L, c.key.size ≤ 9223372036854775807) :
    Calls Tryz.prog 232 #[.slice ao len cap] w fun e w' => ∃ v, e = .returned (.tuple #[v, .int .i64 (chkL L)]) ∧ w'.ownsRow w.heap.size 5 1 v (encR L).length (bv (encR L)) ∧ Below w.heap.size w w' := by
  have HL : Bx (CT B w ao len cap L) := ⟨h⟩
  have HLW : Bx (CT (fun k => k < w.heap.size) w ao len cap L) := ⟨h.low⟩
  have HKS : Bx (∀ c ∈ L, c.key.size ≤ 9223372036854775807) := ⟨hks⟩
  have HLEN : Bx (L.length = len) := ⟨h.len_eq⟩
  have hcl := h.le_cap
  have hcm := h.cap_le
  unfold maxLen at hcm
  clear h hks
  go_enter Tryz.func232, Tryz.ntmps232
  go_wp2_with fail
  refine (check_anyS B ao len cap L _ HL.out HKS.out).mono ?_
  rintro e w1 ⟨rfl, hb1⟩
  by_cases hY : chkL L = 0
  · have HR : Bx (encR L = encL L) := ⟨by unfold encR; rw [if_pos hY]⟩
    have HOK : Bx (LOk L) := ⟨chkL_ok hY⟩
    have hlen : len ≤ 16 := by have := HOK.out.n2; rw [HLEN.out] at this; exact this
    rw [hY]
    have HY : Bx (chkL L = 0) := ⟨hY⟩
    have gm : (len : Int) % 18446744073709551616 = len := by omega
    have HP0 : Bx (encP L 0 = varL len) := ⟨by unfold encP; rw [HLEN.out]; simp⟩
    have hs1 := hb1.size
    have HB1 : Bx (Below w.heap.size w w1) := ⟨hb1⟩
    clear hY hb1 HL
    go_wp2_with fail
    refine (var_any (len : Int) _ (by omega) (by omega)).mono ?_
    rintro e w2 ⟨v2, rfl, hown2, hb2⟩
    rw [← HP0.out] at hown2
    have hown2' := owns_base hown2 hs1
    have hbw2 := bstep HB1.out hb2
    clear hown2 HB1
    obtain ⟨a2, n2, c2, rfl⟩ := own_form hown2'
    go_wp2_with fail
    go_loopw [5, 19] (fun v i wr => ∃ k : Nat, k ≤ len ∧ i = .int .i64 k ∧ Bx (wr.ownsRow w.heap.size 5 1 v (encP L k).length (bv (encP L k))) ∧ Below w.heap.size w wr ∧ (∃ a0 n0 c0, v = .slice a0 n0 c0)) (fun _ i _ => len - (intOf i).toNat)
    case atStart => exact ⟨0, Nat.zero_le _, rfl, ⟨hown2'⟩, hbw2, _, _, _, rfl⟩
    case round =>
      clear hown2' hbw2 hb2
      obtain ⟨k, hk, rfl, HO, hbw, a0, n0, c0, rfl⟩ := hrel
      by_cases hlt : k < len
      · have hkI : (k : Int) < (len : Int) := by omega
        have hkL : k < L.length := by rw [HLEN.out]; exact hlt
        have HST : Bx (encP L (k + 1) = encP L k ++ chgL L[k]) := ⟨encP_step L k hkL⟩
        have hPl := encP_length HOK.out k
        have hck := HOK.out.c _ (List.getElem_mem hkL)
        obtain ⟨b, off, ai, ni, ci, rfl, hbl, _, h1, h2, h3, hbt, hlo⟩ := (HLW.out.stay hbw).chg k hlt
        generalize hcc : L[k] = cc at h1 h2 hbt hck HST
        obtain ⟨kk, dd, vv⟩ := cc
        simp only at h1 h2 hbt
        have hk40 := hck.k2
        have hv40 := hck.v
        have hvl := hbt.len_eq
        simp only at hk40 hv40
        have HBT : Bx (Bts wr ai ni ci vv) := ⟨hbt⟩
        have HLO2 : Bx (0 < ni → ∀ p, ai = some p → p.block < w.heap.size) := ⟨hlo⟩
        have HBW : Bx (Below w.heap.size w wr) := ⟨hbw⟩
        have hba : Bx (Below wr.heap.size wr (wr.alloc (.cells #[.string kk, .bool dd, .slice ai ni ci] 167))) := ⟨(Below.refl _ _).alloc (Nat.le_refl _) _⟩
        have hsr := hbw.size
        generalize encP L k = P at HO HST hPl
        clear hcc hbt hlo hbw hck
        go_wp2_with fail
        refine (putchange_any w.heap.size _ (.slice a0 n0 c0) P kk dd vv ai ni ci _ (owns_below HO.out hba.out) (HBT.out.below hba.out) HLO2.out (by have := hba.out.size; omega) (by omega) (by omega) (by omega)).mono ?_
        rintro e w3 ⟨v3, rfl, hown3, hb3⟩
        have hbw3 := (bstep HBW.out hba.out).trans hb3
        have HO3 : Bx (w3.ownsRow w.heap.size 5 1 v3 (encP L (k + 1)).length (bv (encP L (k + 1)))) := ⟨by rw [HST.out, List.length_append]; exact hown3⟩
        obtain ⟨a3, n3, c3, rfl⟩ := own_form hown3
        clear hown3 hb3 HO HST h1 h2 h3 HBT HLO2 HBW hba
        go_wp2_with fail
        go_roundw
        case rel => exact ⟨k + 1, by omega, by go_num, HO3, hbw3, _, _, _, rfl⟩
        case measure => simp [intOf]; omega
      · have hkI : ¬ (k : Int) < (len : Int) := by omega
        have HF : Bx (encP L k = encR L) := ⟨by rw [HR.out, encP_all L k (by rw [HLEN.out]; omega)]⟩
        rw [HF.out] at HO
        go_wp2_with fail
        go_ret2
        exact ⟨_, by rw [HY.out]; rfl, HO.out, hbw⟩
  · have HR : Bx (encR L = []) := ⟨by unfold encR; rw [if_neg hY]⟩
    have g2 : (chkL L != 0) = true := by simp [hY]
    obtain ⟨Y, HYY⟩ : ∃ Y, Bx (chkL L = Y) := ⟨_, ⟨rfl⟩⟩
    rw [HYY.out] at g2 ⊢
    clear hY
    go_wp2_with fail
    go_ret2
    exact ⟨_, by rw [HYY.out]; rfl, by rw [HR.out]; exact World.ownsRow_nil _ _ _ _, hb1⟩
end Go.Proofs.YtipakjenggeflaaGreatDoor
namespace Go.Proofs.YtipakjenggeflaaGreatDoor
open Go.RowKit
set_option linter.unusedVariables false

/-- what takeBytes answers -/
def TBP (l : List Int) (ao : Option Addr) (w : World) (e : Ending) (w' : World) : Prop :=
  (∃ q, w' = w.drewN q) ∧ ((pc l = none ∧ e = .returned (.tuple #[.slice none 0 0, .slice none 0 0, .bool false])) ∨
    ∃ x y a1 n1 c1 a2 n2 c2, pc l = some (x, y) ∧ e = .returned (.tuple #[.slice a1 n1 c1, .slice a2 n2 c2, .bool true]) ∧ Bts w a1 n1 c1 x ∧ Bts w a2 n2 c2 y ∧ (∀ p, a1 = some p → ∃ q, ao = some q ∧ p.block = q.block) ∧ (∀ p, a2 = some p → ∃ q, ao = some q ∧ p.block = q.block))
set_option maxRecDepth 100000 in
theorem TBP.no {l : List Int} {ao : Option Addr} {w : World} {q : Nat} (h : pc l = none) : TBP l ao w (.returned (.tuple #[.slice none 0 0, .slice none 0 0, .bool false])) (w.drewN q) := ⟨⟨q, rfl⟩, .inl ⟨h, rfl⟩⟩
set_option maxRecDepth 100000 in
theorem TBP.yes {l x y : List Int} {ao a1 a2 : Option Addr} {n1 c1 n2 c2 : Nat} {w : World} {q : Nat} (h : pc l = some (x, y)) (h1 : Bts w a1 n1 c1 x) (h2 : Bts w a2 n2 c2 y) (k1 : ∀ p, a1 = some p → ∃ q, ao = some q ∧ p.block = q.block) (k2 : ∀ p, a2 = some p → ∃ q, ao = some q ∧ p.block = q.block) :
    TBP l ao w (.returned (.tuple #[.slice a1 n1 c1, .slice a2 n2 c2, .bool true])) (w.drewN q) := ⟨⟨q, rfl⟩, .inr ⟨x, y, a1, n1, c1, a2, n2, c2, h, rfl, h1, h2, k1, k2⟩⟩
set_option maxRecDepth 100000 in
theorem rd_facts {l : List Int} (hb : Byt l) : ∃ (n m : Nat) (e : Int), rd l 0 0 = ((n : Int), (m : Int), e) ∧ n ≤ 18446744073709551615 ∧ (e = 0 → 1 ≤ m ∧ m ≤ l.length) ∧ (e = 0 ∨ e = 3 ∨ e = 4) := by
  obtain ⟨x, y, e, hr⟩ : ∃ x y e, rd l 0 0 = (x, y, e) := ⟨_, _, _, rfl⟩
  have hbd := rd_bd l 0 0 hb (by omega) (by omega) (by decide)
  have hcd := rd_code l 0 0
  rw [hr] at hbd hcd
  simp only at hbd hcd
  by_cases he : e = 0
  · subst he
    obtain ⟨t, h1, h2, h3, h4⟩ := rdv_back hb hr
    have h5 := varL_length x
    have h6 : l.length = (varL x).length + t.length := by rw [h1, List.length_append]
    exact ⟨x.toNat, y.toNat, 0, by rw [hr, Int.toNat_of_nonneg h3, Int.toNat_of_nonneg (by omega)], by omega, fun _ => by omega, .inl rfl⟩
  · have h1 := rd_err l 0 0 (by rw [hr]; exact he)
    rw [hr] at h1
    simp only at h1
    exact ⟨0, 0, e, by rw [hr, h1.1, h1.2]; rfl, by omega, fun h => absurd h he, hcd⟩
set_option maxRecDepth 100000 in
set_option maxHeartbeats 1000000 in
theorem takebytes_any (ao : Option Addr) (len cap : Nat) (l : List Int) (w : World) (h : Bts w ao len cap l) :
    Calls Tryz.prog 230 #[.slice ao len cap] w fun e w' => TBP l ao w e w' := by
  have HB : Bx (Bts w ao len cap l) := ⟨h⟩
  have hl := h.len_eq
  have hcl := h.le_cap
  have hcm := h.cap_le
  unfold maxLen at hcm
  obtain ⟨n, m, ec, hr, hn, hm, hec⟩ := rd_facts h.byt
  rw [hl] at hm
  have HPC : Bx (pc l = if ec = 0 ∧ (n : Int) ≤ (len : Int) - m then some ((l.drop m).take n, (l.drop m).drop n) else none) := ⟨by unfold pc; rw [hr, hl]; simp⟩
  have HRD : Bx (rd l 0 0 = ((n : Int), (m : Int), ec)) := ⟨hr⟩
  clear hr hl h
  go_enter Tryz.func230, Tryz.ntmps230
  go_wp2_with fail
  refine (readvar_any ao len cap l _ HB.out).mono ?_
  rintro e w1 ⟨rfl, rfl⟩
  rw [HRD.out]
  unfold rdVal
  by_cases he : ec = 0
  · subst he
    obtain ⟨hm1, hm2⟩ := hm rfl
    clear hm hec
    by_cases hnl : n ≤ len - m
    · have HPC2 : Bx (pc l = some ((l.drop m).take n, (l.drop m).drop n)) := ⟨by rw [HPC.out, if_pos ⟨rfl, by omega⟩]⟩
      obtain ⟨b, off, rfl, hb⟩ : ∃ b off, ao = some ⟨b, off, none⟩ ∧ b < w.heap.size := by
        obtain ⟨b, off, e, h1, _⟩ := HB.out.spot (by omega)
        exact ⟨b, off, e, h1⟩
      have g0 : ((len : Int) - m) % 18446744073709551616 = ((len - m : Nat) : Int) := by omega
      have g1 : decide ((n : Int) > ((len - m : Nat) : Int)) = false := by simp; omega
      have g2 : (m : Int) ≤ (len : Int) := by omega
      have g3 : (m : Int) ≤ (cap : Int) := by omega
      by_cases hcm2 : cap = m
      · have e1 : len = m := by omega
        have e2 : n = 0 := by omega
        subst e1 e2 hcm2
        have hz0 : Bx (Bts w (some ⟨b, off, none⟩) 0 0 ((l.drop cap).take 0) ∧ Bts w (some ⟨b, off, none⟩) 0 0 ((l.drop cap).drop 0)) := by
          have e3 : l.drop cap = [] := List.drop_eq_nil_of_le (by rw [HB.out.len_eq]; exact Nat.le_refl _)
          rw [e3]
          exact ⟨⟨rfl, Byt.nil, Nat.le_refl _, Nat.zero_le _, fun _ => rfl, fun hp => absurd hp (Nat.lt_irrefl _)⟩, ⟨rfl, Byt.nil, Nat.le_refl _, Nat.zero_le _, fun _ => rfl, fun hp => absurd hp (Nat.lt_irrefl _)⟩⟩
        go_wp2_with fail
        go_quiet (fail)
        go_wp2_with fail
        exact bodyPost_ret (v := .tuple #[.slice (some ⟨b, off, none⟩) 0 0, .slice (some ⟨b, off, none⟩) 0 0, .bool true]) (by simp [results, Tryz.results230, go_sem]) rfl (TBP.yes (q := nq) HPC2.out hz0.out.1 hz0.out.2 (fun p e => ⟨_, rfl, by cases e; rfl⟩) (fun p e => ⟨_, rfl, by cases e; rfl⟩))
      · have g5 : ¬ cap = m := hcm2
        have hp1 : Bx (Bts w (some ⟨b, off + m, none⟩) n (cap - m) ((l.drop m).take n)) := ⟨HB.out.part m n (cap - m) (by omega) (by omega) (by unfold maxLen; omega)⟩
        have g6 : (n : Int) ≤ ((cap - m : Nat) : Int) := by omega
        have g7 : (n : Int) ≤ ((len - m : Nat) : Int) := by omega
        by_cases hcn : cap - m = n
        · have e1 : len - m - n = 0 := by omega
          have e2 : cap - m - n = 0 := by omega
          have hz0 : Bx (Bts w (some ⟨b, off + m, none⟩) 0 0 ((l.drop m).drop n)) := by
            have e3 : (l.drop m).drop n = [] := List.drop_eq_nil_of_le (by rw [List.length_drop, HB.out.len_eq]; omega)
            rw [e3]
            exact ⟨rfl, Byt.nil, Nat.le_refl _, Nat.zero_le _, fun _ => rfl, fun hp => absurd hp (Nat.lt_irrefl _)⟩
          have g8 : n ≤ cap - m := by omega
          go_wp2_with fail
          go_quiet (fail)
          go_wp2_with fail
          exact bodyPost_ret (v := .tuple #[.slice (some ⟨b, off + m, none⟩) n (cap - m), .slice (some ⟨b, off + m, none⟩) 0 0, .bool true]) (by simp [results, Tryz.results230, go_sem]; omega) rfl (TBP.yes (q := nq) HPC2.out hp1.out hz0.out (fun p e => ⟨_, rfl, by cases e; rfl⟩) (fun p e => ⟨_, rfl, by cases e; rfl⟩))
        · have hp2 : Bx (Bts w (some ⟨b, off + m + n, none⟩) (len - m - n) (cap - m - n) ((l.drop m).drop n)) := ⟨by
            have h3 := HB.out.part (m + n) (len - m - n) (cap - m - n) (by omega) (by omega) (by unfold maxLen; omega)
            rw [← Nat.add_assoc] at h3
            refine h3.list ?_
            rw [List.drop_drop, List.take_of_length_le (by rw [List.length_drop, HB.out.len_eq]; omega)]⟩
          have g8 : n ≤ cap - m := by omega
          go_wp2_with fail
          go_quiet (fail)
          go_wp2_with fail
          exact bodyPost_ret (v := .tuple #[.slice (some ⟨b, off + m, none⟩) n (cap - m), .slice (some ⟨b, off + m + n, none⟩) (len - m - n) (cap - m - n), .bool true]) (by simp [results, Tryz.results230, go_sem]) rfl (TBP.yes (q := nq) HPC2.out hp1.out hp2.out (fun p e => ⟨_, rfl, by cases e; rfl⟩) (fun p e => ⟨_, rfl, by cases e; rfl⟩))
    · have HPC2 : Bx (pc l = none) := ⟨by rw [HPC.out, if_neg (by omega)]⟩
      have g0 : ((len : Int) - m) % 18446744073709551616 = ((len - m : Nat) : Int) := by omega
      have g1 : decide ((n : Int) > ((len - m : Nat) : Int)) = true := by simp; omega
      have g4 : decide (len - m < n) = true := by simp; omega
      go_wp2_with fail
      exact bodyPost_ret (v := .tuple #[.slice none 0 0, .slice none 0 0, .bool false]) (by simp [results, Tryz.results230, go_sem]) rfl (TBP.no (q := 0) HPC2.out)
  · have HPC2 : Bx (pc l = none) := ⟨by rw [HPC.out, if_neg (fun h => he h.1)]⟩
    have g0 : (ec != 0) = true := by simp [he]
    clear he hm hec
    go_wp2_with fail
    exact bodyPost_ret (v := .tuple #[.slice none 0 0, .slice none 0 0, .bool false]) (by simp [results, Tryz.results230, go_sem]) rfl (TBP.no (q := 0) HPC2.out)
end Go.Proofs.YtipakjenggeflaaGreatDoor
namespace Go.Proofs.YtipakjenggeflaaGreatDoor
open Go.RowKit
set_option linter.unusedVariables false

/-- what takeChange answers -/
def TCP (l : List Int) (ao : Option Addr) (w : World) (e : Ending) (w' : World) : Prop :=
  Below w.heap.size w w' ∧ ((tk l = none ∧ ∃ k d a1 n1 c1 a2 n2 c2, e = .returned (.tuple #[.agg #[.string k, .bool d, .slice a1 n1 c1], .slice a2 n2 c2, .bool false])) ∨
    ∃ c r a1 n1 c1 a2 n2 c2, tk l = some (c, r) ∧ e = .returned (.tuple #[.agg #[.string c.key, .bool c.del, .slice a1 n1 c1], .slice a2 n2 c2, .bool true]) ∧ Bts w' a1 n1 c1 c.val ∧ (0 < n1 → ∀ p, a1 = some p → w.heap.size ≤ p.block ∧ Unf w' p.block) ∧ Bts w a2 n2 c2 r ∧ (∀ p, a2 = some p → ∃ q, ao = some q ∧ p.block = q.block))
set_option maxRecDepth 100000 in
/-- all but the first byte -/
theorem Bts.tail1 {w : World} {b off len cap : Nat} {k : Int} {t : List Int} (h : Bts w (some ⟨b, off, Option.none⟩) len cap (k :: t)) : (cap = 1 ∧ t = []) ∨ (¬ cap = 1 ∧ Bts w (some ⟨b, off + 1, Option.none⟩) (len - 1) (cap - 1) t) := by
  have hl := h.len_eq
  have hcl := h.le_cap
  have hcm := h.cap_le
  rw [List.length_cons] at hl
  by_cases hc : cap = 1
  · exact .inl ⟨hc, List.eq_nil_of_length_eq_zero (by omega)⟩
  · refine .inr ⟨hc, (h.part 1 (len - 1) (cap - 1) (by omega) (by omega) (by omega)).list ?_⟩
    rw [List.drop_one, List.tail_cons, List.take_of_length_le (by omega)]
set_option maxRecDepth 100000 in
/-- a change's variable that is written over -/
theorem row3 {w : World} {g : Nat} {a b c x y z : Value} {T : TypeId} (h : w.heap[g]? = some (.cells #[a, b, c] T (0, 0))) : (((w.setCell ⟨g, 0, none⟩ x).setCell ⟨g, 1, none⟩ y).setCell ⟨g, 2, none⟩ z).heap[g]? = some (.cells #[x, y, z] T (0, 0)) := by
  have h1 := heap_setCell_same w g 0 _ _ x h
  have h2 := heap_setCell_same _ g 1 _ _ y h1
  have h3 := heap_setCell_same _ g 2 _ _ z h2
  rw [h3]; simp
set_option maxRecDepth 100000 in
theorem below3 {N : Nat} {w0 w : World} {g : Nat} {x y z : Value} (h : Below N w0 w) (hg : N ≤ g) : Below N w0 (((w.setCell ⟨g, 0, none⟩ x).setCell ⟨g, 1, none⟩ y).setCell ⟨g, 2, none⟩ z) :=
  ((h.setCell (p := ⟨g, 0, none⟩) hg _).setCell (p := ⟨g, 1, none⟩) hg _).setCell (p := ⟨g, 2, none⟩) hg _
set_option maxRecDepth 100000 in
theorem other3 (w : World) (g : Nat) (x y z : Value) (k : Nat) (hk : k ≠ g) : (((w.setCell ⟨g, 0, none⟩ x).setCell ⟨g, 1, none⟩ y).setCell ⟨g, 2, none⟩ z).heap[k]? = w.heap[k]? := by
  have e : ∀ (W : World) (o : Nat) (v : Value), (W.setCell ⟨g, o, none⟩ v).heap[k]? = W.heap[k]? := fun W o v => heap_setCell_other W ⟨g, o, none⟩ k v hk
  rw [e, e, e]
set_option maxRecDepth 100000 in
theorem size3 (w : World) (g : Nat) (x y z : Value) : (((w.setCell ⟨g, 0, none⟩ x).setCell ⟨g, 1, none⟩ y).setCell ⟨g, 2, none⟩ z).heap.size = w.heap.size := by simp
set_option maxRecDepth 100000 in
theorem pc_nil : pc [] = none := by simp [pc, rd]
set_option maxRecDepth 100000 in
theorem tk_pn {k : Int} {t : List Int} (h : pc t = none) : tk (k :: t) = none := by simp [tk, h]
set_option maxRecDepth 100000 in
theorem tk_oneS {t x r : List Int} (h : pc t = some (x, r)) : tk (1 :: t) = some (⟨strOf x, true, []⟩, r) := by simp [tk, h]
set_option maxRecDepth 100000 in
theorem tk_zn {t x r : List Int} (h : pc t = some (x, r)) (h2 : pc r = none) : tk (0 :: t) = none := by simp [tk, h, h2]
set_option maxRecDepth 100000 in
theorem tk_zs {t x r y r2 : List Int} (h : pc t = some (x, r)) (h2 : pc r = some (y, r2)) : tk (0 :: t) = some (⟨strOf x, false, y⟩, r2) := by simp [tk, h, h2]
set_option maxRecDepth 100000 in
set_option maxHeartbeats 2000000 in
theorem takechange_any (ao : Option Addr) (len cap : Nat) (l : List Int) (w : World) (h : Bts w ao len cap l) (hbig : len ≤ 1099511627776) :
    Calls Tryz.prog 160 #[.slice ao len cap] w fun e w' => TCP l ao w e w' := by
  have HB : Bx (Bts w ao len cap l) := ⟨h⟩
  have hl := h.len_eq
  have hcl := h.le_cap
  have hcm := h.cap_le
  unfold maxLen at hcm
  obtain ⟨wA, HWA⟩ : ∃ wA, Bx (wA = w.alloc (.cells #[.string ⟨#[]⟩, .bool false, .slice none 0 0] 167)) := ⟨_, ⟨rfl⟩⟩
  have hrow : wA.heap[w.heap.size]? = some (.cells #[.string ⟨#[]⟩, .bool false, .slice none 0 0] 167 (0, 0)) := by rw [HWA.out]; exact heap_alloc_new w _
  have HBA : Bx (Below w.heap.size w wA) := ⟨by rw [HWA.out]; exact (Below.refl _ _).alloc (Nat.le_refl _) _⟩
  cases l with
  | nil =>
    obtain rfl : len = 0 := by simpa using hl.symm
    clear h hl
    go_enter Tryz.func160, Tryz.ntmps160
    go_wp2_with fail
    exact bodyPost_ret (v := .tuple #[.agg #[.string ⟨#[]⟩, .bool false, .slice none 0 0], .slice none 0 0, .bool false]) (by simp [results, Tryz.results160, go_sem]) rfl ⟨(Below.refl _ _).alloc (Nat.le_refl _) _, .inl ⟨rfl, _, _, _, _, _, _, _, _, rfl⟩⟩
  | cons k t =>
    rw [List.length_cons] at hl
    obtain ⟨b, off, rfl, hb, hck⟩ := h.spot (by omega)
    have hbk : w.cell? ⟨b, off, none⟩ = some (.int .u8 k) := hck 0 (by omega)
    have hne : b ≠ w.heap.size := by omega
    have gl : ((len : Int) == 0) = false := by simp; omega
    have hk255 := h.byt k (by simp)
    have HTAIL : Bx _ := ⟨h.tail1⟩
    clear h hck hrow HWA
    by_cases hkk : k ≠ 0 ∧ k ≠ 1
    · have HT : Bx (tk (k :: t) = none) := ⟨by rw [tk, if_pos hkk]⟩
      have g1 : (k != 0) = true := by simp [hkk.1]
      have g2 : (k != 1) = true := by simp [hkk.2]
      clear hkk
      go_enter Tryz.func160, Tryz.ntmps160
      go_wp2_with fail
      exact bodyPost_ret (v := .tuple #[.agg #[.string ⟨#[]⟩, .bool false, .slice none 0 0], .slice none 0 0, .bool false]) (by simp [results, Tryz.results160, go_sem]) rfl ⟨(Below.refl _ _).alloc (Nat.le_refl _) _, .inl ⟨HT.out, _, _, _, _, _, _, _, _, rfl⟩⟩
    · have hk01 : k = 0 ∨ k = 1 := by omega
      clear hkk
      rcases HTAIL.out with ⟨rfl, rfl⟩ | ⟨hc1, ht⟩
      · have HTL : Bx (Bts w (some ⟨b, off, none⟩) 0 0 []) := ⟨⟨rfl, Byt.nil, Nat.le_refl _, Nat.zero_le _, fun _ => rfl, fun hp => absurd hp (Nat.lt_irrefl _)⟩⟩
        obtain rfl : len = 1 := by omega
        rcases hk01 with rfl | rfl
        · skip
          -- the key's bytes
          have HTL2 : Bx (Bts (w.alloc (.cells #[.string ⟨#[]⟩, .bool false, .slice none 0 0] 167)) (some ⟨b, off, none⟩) 0 0 []) := ⟨HTL.out.below ((Below.refl _ _).alloc (Nat.le_refl _) _)⟩
          have HR0 : Bx ((w.alloc (.cells #[.string ⟨#[]⟩, .bool false, .slice none 0 0] 167)).heap[w.heap.size]? = some (.cells #[.string ⟨#[]⟩, .bool false, .slice none 0 0] 167 (0, 0))) := ⟨heap_alloc_new w _⟩
          have HB0 : Bx (Below w.heap.size w (w.alloc (.cells #[.string ⟨#[]⟩, .bool false, .slice none 0 0] 167))) := ⟨(Below.refl _ _).alloc (Nat.le_refl _) _⟩
          have HC0 : Bx ((w.alloc (.cells #[.string ⟨#[]⟩, .bool false, .slice none 0 0] 167)).cell? ⟨b, off, none⟩ = some (.int .u8 0)) := ⟨(HB0.out.cell (p := ⟨b, off, none⟩) hb).trans hbk⟩
          go_enter Tryz.func160, Tryz.ntmps160
          go_wp2_with fail
          generalize w.alloc (.cells #[.string ⟨#[]⟩, .bool false, .slice none 0 0] 167) = w0 at HTL2 HR0 HB0 HC0 ⊢
          obtain ⟨g, HG⟩ : ∃ g, Bx (g = w.heap.size) := ⟨_, ⟨rfl⟩⟩
          rw [← HG.out] at HR0 ⊢
          refine (takebytes_any _ _ _ _ _ HTL2.out).mono ?_
          rintro e w1 ⟨⟨q1, hq1⟩, hres⟩
          have HB1 : Bx (Below w.heap.size w w1) := ⟨by rw [hq1]; exact below_drewN HB0.out q1⟩
          have HR1 : Bx (w1.heap[g]? = some (.cells #[.string ⟨#[]⟩, .bool false, .slice none 0 0] 167 (0, 0))) := ⟨by rw [hq1]; exact HR0.out⟩
          have hbk1 : w1.cell? ⟨b, off, none⟩ = some (.int .u8 0) := by rw [hq1]; exact HC0.out
          have HBW : Bx (∀ {a n c l}, Bts w0 a n c l → Bts w1 a n c l) := ⟨fun h => by rw [hq1]; exact h.drewN q1⟩
          have HBW2 : Bx (∀ {a n c} {l : List Int}, Bts w0 a n c l → (∀ p, a = some p → ∃ q, (some ⟨b, off, none⟩ : Option Addr) = some q ∧ p.block = q.block) → Bts w a n c l) := ⟨fun {a n c l} h hp => ⟨h.len_eq, h.byt, h.le_cap, h.cap_le, h.nil, fun h0 => by
            obtain ⟨b', off', e, _, hc⟩ := h.spot h0
            obtain ⟨q, hq, hqb⟩ := hp _ e
            cases hq
            obtain rfl : b' = b := hqb
            exact ⟨_, _, e, hb, fun i hi => (HB0.out.cell (p := ⟨_, off' + i, none⟩) hb).symm.trans (hc i hi)⟩⟩⟩
          have c0 : w1.cell? ⟨g, 0, none⟩ = some (.string ⟨#[]⟩) := cell_of_row w1 g 0 _ _ (0, 0) HR1.out
          have c1 : w1.cell? ⟨g, 1, none⟩ = some (.bool false) := cell_of_row w1 g 1 _ _ (0, 0) HR1.out
          have c2 : w1.cell? ⟨g, 2, none⟩ = some (.slice none 0 0) := cell_of_row w1 g 2 _ _ (0, 0) HR1.out
          have f0 := frozen_of_row w1 g 0 _ _ HR1.out
          have f1 := frozen_of_row w1 g 1 _ _ HR1.out
          have f2 := frozen_of_row w1 g 2 _ _ HR1.out
          clear hq1 HTL2 HR0 HB0 HC0 hbk
          rcases hres with ⟨hpn, rfl⟩ | ⟨x, r, a1, n1, d1, a2, n2, d2, hps, rfl, hx, hr, kx, kr⟩
          · have HT2 : Bx (tk (0 :: []) = none) := ⟨tk_pn hpn⟩
            clear hpn
            go_wp2_with fail
            have hr3 := row3 (x := .string ⟨#[]⟩) (y := .bool false) (z := .slice none 0 0) HR1.out
            have hb3 := below3 (g := g) (x := .string ⟨#[]⟩) (y := .bool false) (z := .slice none 0 0) HB1.out (by rw [HG.out]; exact Nat.le_refl _)
            generalize ((w1.setCell ⟨g, 0, none⟩ (.string ⟨#[]⟩)).setCell ⟨g, 1, none⟩ (.bool false)).setCell ⟨g, 2, none⟩ (.slice none 0 0) = w9 at hr3 hb3 ⊢
            have e0 : w9.cell? ⟨g, 0, none⟩ = some (.string ⟨#[]⟩) := cell_of_row w9 g 0 _ _ (0, 0) hr3
            have e1 : w9.cell? ⟨g, 1, none⟩ = some (.bool false) := cell_of_row w9 g 1 _ _ (0, 0) hr3
            have e2 : w9.cell? ⟨g, 2, none⟩ = some (.slice none 0 0) := cell_of_row w9 g 2 _ _ (0, 0) hr3
            exact bodyPost_ret (v := .tuple #[.agg #[.string ⟨#[]⟩, .bool false, .slice none 0 0], .slice none 0 0, .bool false]) (by simp [results, Tryz.results160, go_sem, e0, e1, e2]) rfl ⟨hb3, .inl ⟨HT2.out, _, _, _, _, _, _, _, _, rfl⟩⟩
          · exact absurd hps (by rw [pc_nil]; simp)
        · skip
          -- the key's bytes
          have HTL2 : Bx (Bts (w.alloc (.cells #[.string ⟨#[]⟩, .bool false, .slice none 0 0] 167)) (some ⟨b, off, none⟩) 0 0 []) := ⟨HTL.out.below ((Below.refl _ _).alloc (Nat.le_refl _) _)⟩
          have HR0 : Bx ((w.alloc (.cells #[.string ⟨#[]⟩, .bool false, .slice none 0 0] 167)).heap[w.heap.size]? = some (.cells #[.string ⟨#[]⟩, .bool false, .slice none 0 0] 167 (0, 0))) := ⟨heap_alloc_new w _⟩
          have HB0 : Bx (Below w.heap.size w (w.alloc (.cells #[.string ⟨#[]⟩, .bool false, .slice none 0 0] 167))) := ⟨(Below.refl _ _).alloc (Nat.le_refl _) _⟩
          have HC0 : Bx ((w.alloc (.cells #[.string ⟨#[]⟩, .bool false, .slice none 0 0] 167)).cell? ⟨b, off, none⟩ = some (.int .u8 1)) := ⟨(HB0.out.cell (p := ⟨b, off, none⟩) hb).trans hbk⟩
          go_enter Tryz.func160, Tryz.ntmps160
          go_wp2_with fail
          generalize w.alloc (.cells #[.string ⟨#[]⟩, .bool false, .slice none 0 0] 167) = w0 at HTL2 HR0 HB0 HC0 ⊢
          obtain ⟨g, HG⟩ : ∃ g, Bx (g = w.heap.size) := ⟨_, ⟨rfl⟩⟩
          rw [← HG.out] at HR0 ⊢
          refine (takebytes_any _ _ _ _ _ HTL2.out).mono ?_
          rintro e w1 ⟨⟨q1, hq1⟩, hres⟩
          have HB1 : Bx (Below w.heap.size w w1) := ⟨by rw [hq1]; exact below_drewN HB0.out q1⟩
          have HR1 : Bx (w1.heap[g]? = some (.cells #[.string ⟨#[]⟩, .bool false, .slice none 0 0] 167 (0, 0))) := ⟨by rw [hq1]; exact HR0.out⟩
          have hbk1 : w1.cell? ⟨b, off, none⟩ = some (.int .u8 1) := by rw [hq1]; exact HC0.out
          have HBW : Bx (∀ {a n c l}, Bts w0 a n c l → Bts w1 a n c l) := ⟨fun h => by rw [hq1]; exact h.drewN q1⟩
          have HBW2 : Bx (∀ {a n c} {l : List Int}, Bts w0 a n c l → (∀ p, a = some p → ∃ q, (some ⟨b, off, none⟩ : Option Addr) = some q ∧ p.block = q.block) → Bts w a n c l) := ⟨fun {a n c l} h hp => ⟨h.len_eq, h.byt, h.le_cap, h.cap_le, h.nil, fun h0 => by
            obtain ⟨b', off', e, _, hc⟩ := h.spot h0
            obtain ⟨q, hq, hqb⟩ := hp _ e
            cases hq
            obtain rfl : b' = b := hqb
            exact ⟨_, _, e, hb, fun i hi => (HB0.out.cell (p := ⟨_, off' + i, none⟩) hb).symm.trans (hc i hi)⟩⟩⟩
          have c0 : w1.cell? ⟨g, 0, none⟩ = some (.string ⟨#[]⟩) := cell_of_row w1 g 0 _ _ (0, 0) HR1.out
          have c1 : w1.cell? ⟨g, 1, none⟩ = some (.bool false) := cell_of_row w1 g 1 _ _ (0, 0) HR1.out
          have c2 : w1.cell? ⟨g, 2, none⟩ = some (.slice none 0 0) := cell_of_row w1 g 2 _ _ (0, 0) HR1.out
          have f0 := frozen_of_row w1 g 0 _ _ HR1.out
          have f1 := frozen_of_row w1 g 1 _ _ HR1.out
          have f2 := frozen_of_row w1 g 2 _ _ HR1.out
          clear hq1 HTL2 HR0 HB0 HC0 hbk
          rcases hres with ⟨hpn, rfl⟩ | ⟨x, r, a1, n1, d1, a2, n2, d2, hps, rfl, hx, hr, kx, kr⟩
          · have HT2 : Bx (tk (1 :: []) = none) := ⟨tk_pn hpn⟩
            clear hpn
            go_wp2_with fail
            have hr3 := row3 (x := .string ⟨#[]⟩) (y := .bool false) (z := .slice none 0 0) HR1.out
            have hb3 := below3 (g := g) (x := .string ⟨#[]⟩) (y := .bool false) (z := .slice none 0 0) HB1.out (by rw [HG.out]; exact Nat.le_refl _)
            generalize ((w1.setCell ⟨g, 0, none⟩ (.string ⟨#[]⟩)).setCell ⟨g, 1, none⟩ (.bool false)).setCell ⟨g, 2, none⟩ (.slice none 0 0) = w9 at hr3 hb3 ⊢
            have e0 : w9.cell? ⟨g, 0, none⟩ = some (.string ⟨#[]⟩) := cell_of_row w9 g 0 _ _ (0, 0) hr3
            have e1 : w9.cell? ⟨g, 1, none⟩ = some (.bool false) := cell_of_row w9 g 1 _ _ (0, 0) hr3
            have e2 : w9.cell? ⟨g, 2, none⟩ = some (.slice none 0 0) := cell_of_row w9 g 2 _ _ (0, 0) hr3
            exact bodyPost_ret (v := .tuple #[.agg #[.string ⟨#[]⟩, .bool false, .slice none 0 0], .slice none 0 0, .bool false]) (by simp [results, Tryz.results160, go_sem, e0, e1, e2]) rfl ⟨hb3, .inl ⟨HT2.out, _, _, _, _, _, _, _, _, rfl⟩⟩
          · exact absurd hps (by rw [pc_nil]; simp)
      · have HTL : Bx (Bts w (some ⟨b, off + 1, none⟩) (len - 1) (cap - 1) t) := ⟨ht⟩
        have g3 : (1 : Int) ≤ (len : Int) := by omega
        have g4 : (1 : Int) ≤ (cap : Int) := by omega
        clear ht
        rcases hk01 with rfl | rfl
        · skip
          -- the key's bytes
          have HTL2 : Bx (Bts (w.alloc (.cells #[.string ⟨#[]⟩, .bool false, .slice none 0 0] 167)) (some ⟨b, off + 1, none⟩) (len - 1) (cap - 1) t) := ⟨HTL.out.below ((Below.refl _ _).alloc (Nat.le_refl _) _)⟩
          have HR0 : Bx ((w.alloc (.cells #[.string ⟨#[]⟩, .bool false, .slice none 0 0] 167)).heap[w.heap.size]? = some (.cells #[.string ⟨#[]⟩, .bool false, .slice none 0 0] 167 (0, 0))) := ⟨heap_alloc_new w _⟩
          have HB0 : Bx (Below w.heap.size w (w.alloc (.cells #[.string ⟨#[]⟩, .bool false, .slice none 0 0] 167))) := ⟨(Below.refl _ _).alloc (Nat.le_refl _) _⟩
          have HC0 : Bx ((w.alloc (.cells #[.string ⟨#[]⟩, .bool false, .slice none 0 0] 167)).cell? ⟨b, off, none⟩ = some (.int .u8 0)) := ⟨(HB0.out.cell (p := ⟨b, off, none⟩) hb).trans hbk⟩
          go_enter Tryz.func160, Tryz.ntmps160
          go_wp2_with fail
          generalize w.alloc (.cells #[.string ⟨#[]⟩, .bool false, .slice none 0 0] 167) = w0 at HTL2 HR0 HB0 HC0 ⊢
          obtain ⟨g, HG⟩ : ∃ g, Bx (g = w.heap.size) := ⟨_, ⟨rfl⟩⟩
          rw [← HG.out] at HR0 ⊢
          refine (takebytes_any _ _ _ _ _ HTL2.out).mono ?_
          rintro e w1 ⟨⟨q1, hq1⟩, hres⟩
          have HB1 : Bx (Below w.heap.size w w1) := ⟨by rw [hq1]; exact below_drewN HB0.out q1⟩
          have HR1 : Bx (w1.heap[g]? = some (.cells #[.string ⟨#[]⟩, .bool false, .slice none 0 0] 167 (0, 0))) := ⟨by rw [hq1]; exact HR0.out⟩
          have hbk1 : w1.cell? ⟨b, off, none⟩ = some (.int .u8 0) := by rw [hq1]; exact HC0.out
          have HBW : Bx (∀ {a n c l}, Bts w0 a n c l → Bts w1 a n c l) := ⟨fun h => by rw [hq1]; exact h.drewN q1⟩
          have HBW2 : Bx (∀ {a n c} {l : List Int}, Bts w0 a n c l → (∀ p, a = some p → ∃ q, (some ⟨b, off, none⟩ : Option Addr) = some q ∧ p.block = q.block) → Bts w a n c l) := ⟨fun {a n c l} h hp => ⟨h.len_eq, h.byt, h.le_cap, h.cap_le, h.nil, fun h0 => by
            obtain ⟨b', off', e, _, hc⟩ := h.spot h0
            obtain ⟨q, hq, hqb⟩ := hp _ e
            cases hq
            obtain rfl : b' = b := hqb
            exact ⟨_, _, e, hb, fun i hi => (HB0.out.cell (p := ⟨_, off' + i, none⟩) hb).symm.trans (hc i hi)⟩⟩⟩
          have c0 : w1.cell? ⟨g, 0, none⟩ = some (.string ⟨#[]⟩) := cell_of_row w1 g 0 _ _ (0, 0) HR1.out
          have c1 : w1.cell? ⟨g, 1, none⟩ = some (.bool false) := cell_of_row w1 g 1 _ _ (0, 0) HR1.out
          have c2 : w1.cell? ⟨g, 2, none⟩ = some (.slice none 0 0) := cell_of_row w1 g 2 _ _ (0, 0) HR1.out
          have f0 := frozen_of_row w1 g 0 _ _ HR1.out
          have f1 := frozen_of_row w1 g 1 _ _ HR1.out
          have f2 := frozen_of_row w1 g 2 _ _ HR1.out
          clear hq1 HTL2 HR0 HB0 HC0 hbk
          rcases hres with ⟨hpn, rfl⟩ | ⟨x, r, a1, n1, d1, a2, n2, d2, hps, rfl, hx, hr, kx, kr⟩
          · have HT2 : Bx (tk (0 :: t) = none) := ⟨tk_pn hpn⟩
            clear hpn
            go_wp2_with fail
            have hr3 := row3 (x := .string ⟨#[]⟩) (y := .bool false) (z := .slice none 0 0) HR1.out
            have hb3 := below3 (g := g) (x := .string ⟨#[]⟩) (y := .bool false) (z := .slice none 0 0) HB1.out (by rw [HG.out]; exact Nat.le_refl _)
            generalize ((w1.setCell ⟨g, 0, none⟩ (.string ⟨#[]⟩)).setCell ⟨g, 1, none⟩ (.bool false)).setCell ⟨g, 2, none⟩ (.slice none 0 0) = w9 at hr3 hb3 ⊢
            have e0 : w9.cell? ⟨g, 0, none⟩ = some (.string ⟨#[]⟩) := cell_of_row w9 g 0 _ _ (0, 0) hr3
            have e1 : w9.cell? ⟨g, 1, none⟩ = some (.bool false) := cell_of_row w9 g 1 _ _ (0, 0) hr3
            have e2 : w9.cell? ⟨g, 2, none⟩ = some (.slice none 0 0) := cell_of_row w9 g 2 _ _ (0, 0) hr3
            exact bodyPost_ret (v := .tuple #[.agg #[.string ⟨#[]⟩, .bool false, .slice none 0 0], .slice none 0 0, .bool false]) (by simp [results, Tryz.results160, go_sem, e0, e1, e2]) rfl ⟨hb3, .inl ⟨HT2.out, _, _, _, _, _, _, _, _, rfl⟩⟩
          -- the value's bytes
          have HX1 : Bx (Bts w1 a1 n1 d1 x) := ⟨HBW.out hx⟩
          have HR2 : Bx (Bts w1 a2 n2 d2 r) := ⟨HBW.out hr⟩
          have HRW : Bx (Bts w a2 n2 d2 r ∧ ∀ p, a2 = some p → ∃ q, (some ⟨b, off, none⟩ : Option Addr) = some q ∧ p.block = q.block) := by
            have kr2 : ∀ p, a2 = some p → ∃ q, (some ⟨b, off, none⟩ : Option Addr) = some q ∧ p.block = q.block := fun p e => by
              obtain ⟨q, hq, hqb⟩ := kr p e
              cases hq
              exact ⟨_, rfl, hqb⟩
            exact ⟨HBW2.out hr kr2, kr2⟩
          have HPS := Bx.mk hps
          have HXB : Bx (∀ p, a1 = some p → p.block ≠ g) := ⟨fun p e e2 => by
            obtain ⟨q, hq, hqb⟩ := kx p e
            cases hq
            have h3 : p.block = b := hqb
            have h4 := HG.out
            omega⟩
          have hrl : r.length ≤ 1099511627776 := by
            have h1 := (pc_byt HTL.out.byt hps).2.2
            have h2 := HTL.out.len_eq
            omega
          clear hx hr kx kr hps HBW HBW2
          go_wp2_with fail
          refine (takebytes_any a2 n2 d2 r _ HR2.out).mono ?_
          rintro e wz ⟨⟨q2, hq2⟩, hres⟩
          have HBz : Bx (Below w.heap.size w wz) := ⟨by rw [hq2]; exact below_drewN HB1.out q2⟩
          have HR : Bx (wz.heap[g]? = some (.cells #[.string ⟨#[]⟩, .bool false, .slice none 0 0] 167 (0, 0))) := ⟨by rw [hq2]; exact HR1.out⟩
          have HX : Bx (Bts wz a1 n1 d1 x) := ⟨by rw [hq2]; exact HX1.out.drewN q2⟩
          have HZW : Bx (∀ {a n c l}, Bts w1 a n c l → Bts wz a n c l) := ⟨fun h => by rw [hq2]; exact h.drewN q2⟩
          have HZV : Bx (∀ {a n c} {l : List Int}, Bts w1 a n c l → (∀ p, a = some p → ∃ q, a2 = some q ∧ p.block = q.block) → Bts w a n c l ∧ ∀ p, a = some p → ∃ q, (some ⟨b, off, none⟩ : Option Addr) = some q ∧ p.block = q.block) := ⟨fun {a n c l} h hp => by
            have hp2 : ∀ p, a = some p → ∃ q, (some ⟨b, off, none⟩ : Option Addr) = some q ∧ p.block = q.block := fun p e => by
              obtain ⟨q, hq, hqb⟩ := hp p e
              obtain ⟨q3, hq3, hqb3⟩ := HRW.out.2 q hq
              exact ⟨q3, hq3, hqb.trans hqb3⟩
            refine ⟨⟨h.len_eq, h.byt, h.le_cap, h.cap_le, h.nil, fun h0 => ?_⟩, hp2⟩
            obtain ⟨b', off', e, _, hc⟩ := h.spot h0
            obtain ⟨q, hq, hqb⟩ := hp2 _ e
            cases hq
            obtain rfl : b' = b := hqb
            exact ⟨_, _, e, hb, fun i hi => (HB1.out.cell (p := ⟨_, off' + i, none⟩) hb).symm.trans (hc i hi)⟩⟩
          have HBK : Bx (Below wz.heap.size wz wz.drew) := ⟨(Below.refl _ _).drew⟩
          have hk : Bts wz.drew a1 n1 d1 x := HX.out.drewN 1
          clear hq2 HR1 HX1 HR2 c0 c1 c2 f0 f1 f2 hbk1
          rcases hres with ⟨hpn, rfl⟩ | ⟨y, r2, a8, n8, d8, a9, n9, d9, hps2, rfl, hy, hr2, ky, kr2⟩
          · have HT2 := Bx.mk (tk_zn HPS.out hpn)
            have HY : Bx (Bts wz none 0 0 []) := ⟨⟨rfl, Byt.nil, Nat.le_refl _, Nat.zero_le _, fun _ => rfl, fun hp => absurd hp (Nat.lt_irrefl _)⟩⟩
            obtain ⟨y, HYY⟩ : ∃ y : List Int, Bx (y = []) := ⟨_, ⟨rfl⟩⟩
            rw [← HYY.out] at HY
            clear hpn HZW HZV HPS
            go_wp2_with fail
            refine wp_region_held_drew (S := fun W => Bts W a1 n1 d1 x) (by kernel_rfl) hk (fun _ => ?_)
            generalize wz.drew = wk at hk HBK ⊢
            refine wpAnyH_take (i := 0) (oi := ⟨some 49, .move (.tmp 5), 34, "store.go:134", #[], none⟩) (v := ?vtch9n1) rfl (by kernel_rfl) (by kernel_rfl) (by kernel_rfl) (fun _ _ _ h => h) (Or.inl ⟨by rfl, ?ytch9n1⟩) hk ?rtch9n1
            case ytch9n1 => (intro w hSw; (try dsimp only at hSw); go_simp; first | done | with_reducible rfl)
            simp only [Act.put, List.setIfInBounds_toArray, List.set_cons_zero, List.set_cons_succ]
            refine wpAnyH_take (i := 1) (oi := ⟨some 50, .convert 34 9 (.tmp 49), 9, "store.go:134", #[⟨0, .data⟩], none⟩) (v := .string (strOf x)) rfl (by kernel_rfl) (by kernel_rfl) (by kernel_rfl) (fun _ _ _ h => h) (Or.inl ⟨by rfl, ?ytch9n2⟩) hk ?rtch9n2
            case ytch9n2 => (intro w hSw; have hcv := hSw.str; go_simp; first | done | with_reducible rfl)
            simp only [Act.put, List.setIfInBounds_toArray, List.set_cons_zero, List.set_cons_succ]
            refine wpAnyH_take (i := 2) (oi := ⟨some 51, .move (.tmp 8), 34, "store.go:134", #[], none⟩) (v := ?vtch9n3) rfl (by kernel_rfl) (by kernel_rfl) (by kernel_rfl) (fun _ _ _ h => h) (Or.inl ⟨by rfl, ?ytch9n3⟩) hk ?rtch9n3
            case ytch9n3 => (intro w hSw; (try dsimp only at hSw); go_simp; first | done | with_reducible rfl)
            simp only [Act.put, List.setIfInBounds_toArray, List.set_cons_zero, List.set_cons_succ]
            refine wpAnyH_take (i := 5) (oi := ⟨some 54, .move (.tmp 6), 34, "store.go:134", #[{ on := 7, ground := Ground.gcOnly Departure.lateStores }], none⟩) (v := ?vtch9n4) rfl (by kernel_rfl) (by kernel_rfl) (by kernel_rfl) (fun _ _ _ h => h) (Or.inl ⟨by rfl, ?ytch9n4⟩) hk ?rtch9n4
            case ytch9n4 => (intro w hSw; (try dsimp only at hSw); go_simp; first | done | with_reducible rfl)
            simp only [Act.put, List.setIfInBounds_toArray, List.set_cons_zero, List.set_cons_succ]
            refine wpAnyH_take (i := 6) (oi := ⟨some 55, .move (.tmp 7), 4, "store.go:134", #[{ on := 8, ground := Ground.gcOnly Departure.lateStores }], none⟩) (v := ?vtch9n5) rfl (by kernel_rfl) (by kernel_rfl) (by kernel_rfl) (fun _ _ _ h => h) (Or.inl ⟨by rfl, ?ytch9n5⟩) hk ?rtch9n5
            case ytch9n5 => (intro w hSw; (try dsimp only at hSw); go_simp; first | done | with_reducible rfl)
            simp only [Act.put, List.setIfInBounds_toArray, List.set_cons_zero, List.set_cons_succ]
            refine wpAnyH_ready (rs := [3]) (by decide +kernel) (by simp) ?_
            refine AllReadyH.cons (o := ⟨some 52, .call { callee := .value (.func 111), args := #[.tmp 51], argTypes := #[34] }, 34, "store.go:134", #[⟨2, .data⟩], none⟩) rfl (fun K hK => ?_) AllReadyH.nil
            go_simp
            refine (clone_any _ _ _ _ _ (HY.out.below HBK.out) (by omega)).mono ?_
            rintro e7 w7 ⟨v7, rfl, hown7, hb7⟩
            obtain ⟨a7, c7, rfl, hm7⟩ := Bts.of_owns hown7 HY.out.byt
            have HM7 : Bx (Bts w7 a7 0 c7 y) := ⟨hm7⟩
            have HN7 : Bx (∀ p, a7 = some p → wk.heap.size ≤ p.block ∧ Unf w7 p.block) := ⟨fun p e => ⟨(own_ge hown7 p e).1, own_unf hown7 p e⟩⟩
            have hsk : Bx (wz.heap.size ≤ wk.heap.size) := ⟨HBK.out.size⟩
            replace hk := hk.below hb7
            replace HBK : Bx (Below wz.heap.size wz w7) := ⟨bstep HBK.out hb7⟩
            have hr7 := (HBK.out.block g (Array.getElem?_eq_some_iff.1 HR.out).1).trans HR.out
            have HR7 : Bx _ := ⟨hr7⟩
            have f0 := frozen_of_row w7 g 0 _ _ hr7
            have f1 := frozen_of_row w7 g 1 _ _ hr7
            have f2 := frozen_of_row w7 g 2 _ _ hr7
            have dd0 : w7.cell? ⟨g, 0, none⟩ = some (.string ⟨#[]⟩) := cell_of_row w7 g 0 _ _ (0, 0) hr7
            have dd1 : w7.cell? ⟨g, 1, none⟩ = some (.bool false) := cell_of_row w7 g 1 _ _ (0, 0) hr7
            have dd2 : w7.cell? ⟨g, 2, none⟩ = some (.slice none 0 0) := cell_of_row w7 g 2 _ _ (0, 0) hr7
            clear hown7 hb7 hm7 hr7
            refine hK.out _ _ hk (fun _ => ?_)
            clear hK K
            try simp only [Act.put, List.setIfInBounds_toArray, List.set_cons_zero, List.set_cons_succ]
            refine wpAnyH_take (i := 4) (oi := ⟨some 53, .build 167 #[(0, .tmp 50), (2, .tmp 52)], 167, "store.go:134", #[⟨1, .data⟩, ⟨3, .data⟩], none⟩) (v := ?vtch9n6) rfl (by kernel_rfl) (by kernel_rfl) (by kernel_rfl) (fun _ _ _ h => h) (Or.inl ⟨by rfl, ?ytch9n6⟩) hk ?rtch9n6
            case ytch9n6 => (intro w hSw; (try dsimp only at hSw); go_simp; first | done | with_reducible rfl)
            simp only [Act.put, List.setIfInBounds_toArray, List.set_cons_zero, List.set_cons_succ]
            refine wpAnyH_ready (rs := [7]) (by decide +kernel) (by simp) ?_
            refine AllReadyH.cons (o := ⟨none, .store 167 (.tmp 2) (.tmp 53), 0, "store.go:134", #[⟨4, .data⟩, ⟨3, .chain⟩, ⟨0, .phase⟩, ⟨1, .phase⟩, ⟨2, .phase⟩, ⟨3, .phase⟩, ⟨4, .phase⟩, { on := 5, ground := Ground.textOnly Departure.lateStores }, { on := 6, ground := Ground.textOnly Departure.lateStores }], none⟩) rfl (fun K hK => ?_) AllReadyH.nil
            rw [if_pos (by rfl)]
            have hr3 := row3 (x := .string (strOf x)) (y := .bool false) (z := .slice a7 0 c7) HR7.out
            have hb3 := below3 (g := g) (x := .string (strOf x)) (y := .bool false) (z := .slice a7 0 c7) (bstep HBz.out HBK.out) (by rw [HG.out]; exact Nat.le_refl _)
            have HM8 : Bx (Bts (((w7.setCell ⟨g, 0, none⟩ (.string (strOf x))).setCell ⟨g, 1, none⟩ (.bool false)).setCell ⟨g, 2, none⟩ (.slice a7 0 c7)) a7 0 c7 y) := ⟨HM7.out.keep (fun hp p e => other3 w7 g _ _ _ p.block (by have h1 := (HN7.out p e).1; have h2 := (Array.getElem?_eq_some_iff.1 HR.out).1; have h3 := hsk.out; omega)) (by rw [size3]; exact Nat.le_refl _)⟩
            replace hk : Bts (((w7.setCell ⟨g, 0, none⟩ (.string (strOf x))).setCell ⟨g, 1, none⟩ (.bool false)).setCell ⟨g, 2, none⟩ (.slice a7 0 c7)) a1 n1 d1 x := hk.keep (fun hp p e => other3 w7 g _ _ _ p.block (HXB.out p e)) (by rw [size3]; exact Nat.le_refl _)
            go_simp
            refine hK.out _ _ hk (fun _ => ?_)
            clear hK K
            try simp only [Act.put, List.setIfInBounds_toArray, List.set_cons_zero, List.set_cons_succ]
            refine wpAnyH_take (i := 8) (oi := ⟨some 3, .assign (.tmp 54), 34, "store.go:134", #[⟨5, .data⟩, ⟨7, .chain⟩, ⟨0, .phase⟩, ⟨1, .phase⟩, ⟨2, .phase⟩, ⟨3, .phase⟩, ⟨4, .phase⟩, ⟨5, .phase⟩, { on := 6, ground := Ground.textOnly Departure.lateStores }, ⟨7, .phase⟩], none⟩) (v := ?vtch9n8) rfl (by kernel_rfl) (by kernel_rfl) (by kernel_rfl) (fun _ _ _ h => h) (Or.inl ⟨by rfl, ?ytch9n8⟩) hk ?rtch9n8
            case ytch9n8 => (intro w hSw; (try dsimp only at hSw); go_simp; first | done | with_reducible rfl)
            simp only [Act.put, List.setIfInBounds_toArray, List.set_cons_zero, List.set_cons_succ]
            refine wpAnyH_take (i := 9) (oi := ⟨some 4, .assign (.tmp 55), 4, "store.go:134", #[⟨6, .data⟩, ⟨8, .chain⟩, ⟨0, .phase⟩, ⟨1, .phase⟩, ⟨2, .phase⟩, ⟨3, .phase⟩, ⟨4, .phase⟩, ⟨5, .phase⟩, ⟨6, .phase⟩, ⟨7, .phase⟩, ⟨8, .phase⟩], none⟩) (v := ?vtch9n9) rfl (by kernel_rfl) (by kernel_rfl) (by kernel_rfl) (fun _ _ _ h => h) (Or.inl ⟨by rfl, ?ytch9n9⟩) hk ?rtch9n9
            case ytch9n9 => (intro w hSw; (try dsimp only at hSw); go_simp; first | done | with_reducible rfl)
            simp only [Act.put, List.setIfInBounds_toArray, List.set_cons_zero, List.set_cons_succ]
            refine wpAnyH_done (by decide +kernel) ?_ _
            have HN8 : Bx (0 < 0 → ∀ p, a7 = some p → w.heap.size ≤ p.block ∧ Unf (((w7.setCell ⟨g, 0, none⟩ (.string (strOf x))).setCell ⟨g, 1, none⟩ (.bool false)).setCell ⟨g, 2, none⟩ (.slice a7 0 c7)) p.block) := ⟨fun _ p e => by
              have h1 := (HN7.out p e).1; have h2 := hsk.out; have h3 := HBz.out.size; have h4 := (Array.getElem?_eq_some_iff.1 HR.out).1
              exact ⟨by omega, (HN7.out p e).2.keep (other3 w7 g _ _ _ p.block (by omega))⟩⟩
            generalize ((w7.setCell ⟨g, 0, none⟩ (.string (strOf x))).setCell ⟨g, 1, none⟩ (.bool false)).setCell ⟨g, 2, none⟩ (.slice a7 0 c7) = w9 at hr3 hb3 HM8 HN8 ⊢
            have e0 : w9.cell? ⟨g, 0, none⟩ = some (.string (strOf x)) := cell_of_row w9 g 0 _ _ (0, 0) hr3
            have e1 : w9.cell? ⟨g, 1, none⟩ = some (.bool false) := cell_of_row w9 g 1 _ _ (0, 0) hr3
            have e2 : w9.cell? ⟨g, 2, none⟩ = some (.slice a7 0 c7) := cell_of_row w9 g 2 _ _ (0, 0) hr3
            clear hk HBK HM7 HN7 HR7 HR HX HY
            go_wp2_with fail
            exact bodyPost_ret (v := .tuple #[.agg #[.string (strOf x), .bool false, .slice a7 0 c7], .slice none 0 0, .bool false]) (by simp [results, Tryz.results160, go_sem, e0, e1, e2]) rfl ⟨hb3, .inl ⟨HT2.out, _, _, _, _, _, _, _, _, rfl⟩⟩
          · have HT2 := Bx.mk (tk_zs HPS.out hps2)
            have HY : Bx (Bts wz a8 n8 d8 y) := ⟨HZW.out hy⟩
            have HR9 : Bx (Bts w a9 n9 d9 r2 ∧ ∀ p, a9 = some p → ∃ q, (some ⟨b, off, none⟩ : Option Addr) = some q ∧ p.block = q.block) := ⟨HZV.out hr2 kr2⟩
            have hyl : n8 ≤ 1099511627776 := by
              have h1 := (pc_byt HRW.out.1.byt hps2).2.2
              have h2 := hy.len_eq
              omega
            clear hps2 hy hr2 ky kr2 HZW HZV HPS
            go_wp2_with fail
            refine wp_region_held_drew (S := fun W => Bts W a1 n1 d1 x) (by kernel_rfl) hk (fun _ => ?_)
            generalize wz.drew = wk at hk HBK ⊢
            refine wpAnyH_take (i := 0) (oi := ⟨some 49, .move (.tmp 5), 34, "store.go:134", #[], none⟩) (v := ?vtch91) rfl (by kernel_rfl) (by kernel_rfl) (by kernel_rfl) (fun _ _ _ h => h) (Or.inl ⟨by rfl, ?ytch91⟩) hk ?rtch91
            case ytch91 => (intro w hSw; (try dsimp only at hSw); go_simp; first | done | with_reducible rfl)
            simp only [Act.put, List.setIfInBounds_toArray, List.set_cons_zero, List.set_cons_succ]
            refine wpAnyH_take (i := 1) (oi := ⟨some 50, .convert 34 9 (.tmp 49), 9, "store.go:134", #[⟨0, .data⟩], none⟩) (v := .string (strOf x)) rfl (by kernel_rfl) (by kernel_rfl) (by kernel_rfl) (fun _ _ _ h => h) (Or.inl ⟨by rfl, ?ytch92⟩) hk ?rtch92
            case ytch92 => (intro w hSw; have hcv := hSw.str; go_simp; first | done | with_reducible rfl)
            simp only [Act.put, List.setIfInBounds_toArray, List.set_cons_zero, List.set_cons_succ]
            refine wpAnyH_take (i := 2) (oi := ⟨some 51, .move (.tmp 8), 34, "store.go:134", #[], none⟩) (v := ?vtch93) rfl (by kernel_rfl) (by kernel_rfl) (by kernel_rfl) (fun _ _ _ h => h) (Or.inl ⟨by rfl, ?ytch93⟩) hk ?rtch93
            case ytch93 => (intro w hSw; (try dsimp only at hSw); go_simp; first | done | with_reducible rfl)
            simp only [Act.put, List.setIfInBounds_toArray, List.set_cons_zero, List.set_cons_succ]
            refine wpAnyH_take (i := 5) (oi := ⟨some 54, .move (.tmp 6), 34, "store.go:134", #[{ on := 7, ground := Ground.gcOnly Departure.lateStores }], none⟩) (v := ?vtch94) rfl (by kernel_rfl) (by kernel_rfl) (by kernel_rfl) (fun _ _ _ h => h) (Or.inl ⟨by rfl, ?ytch94⟩) hk ?rtch94
            case ytch94 => (intro w hSw; (try dsimp only at hSw); go_simp; first | done | with_reducible rfl)
            simp only [Act.put, List.setIfInBounds_toArray, List.set_cons_zero, List.set_cons_succ]
            refine wpAnyH_take (i := 6) (oi := ⟨some 55, .move (.tmp 7), 4, "store.go:134", #[{ on := 8, ground := Ground.gcOnly Departure.lateStores }], none⟩) (v := ?vtch95) rfl (by kernel_rfl) (by kernel_rfl) (by kernel_rfl) (fun _ _ _ h => h) (Or.inl ⟨by rfl, ?ytch95⟩) hk ?rtch95
            case ytch95 => (intro w hSw; (try dsimp only at hSw); go_simp; first | done | with_reducible rfl)
            simp only [Act.put, List.setIfInBounds_toArray, List.set_cons_zero, List.set_cons_succ]
            refine wpAnyH_ready (rs := [3]) (by decide +kernel) (by simp) ?_
            refine AllReadyH.cons (o := ⟨some 52, .call { callee := .value (.func 111), args := #[.tmp 51], argTypes := #[34] }, 34, "store.go:134", #[⟨2, .data⟩], none⟩) rfl (fun K hK => ?_) AllReadyH.nil
            go_simp
            refine (clone_any _ _ _ _ _ (HY.out.below HBK.out) (by omega)).mono ?_
            rintro e7 w7 ⟨v7, rfl, hown7, hb7⟩
            obtain ⟨a7, c7, rfl, hm7⟩ := Bts.of_owns hown7 HY.out.byt
            have HM7 : Bx (Bts w7 a7 n8 c7 y) := ⟨hm7⟩
            have HN7 : Bx (∀ p, a7 = some p → wk.heap.size ≤ p.block ∧ Unf w7 p.block) := ⟨fun p e => ⟨(own_ge hown7 p e).1, own_unf hown7 p e⟩⟩
            have hsk : Bx (wz.heap.size ≤ wk.heap.size) := ⟨HBK.out.size⟩
            replace hk := hk.below hb7
            replace HBK : Bx (Below wz.heap.size wz w7) := ⟨bstep HBK.out hb7⟩
            have hr7 := (HBK.out.block g (Array.getElem?_eq_some_iff.1 HR.out).1).trans HR.out
            have HR7 : Bx _ := ⟨hr7⟩
            have f0 := frozen_of_row w7 g 0 _ _ hr7
            have f1 := frozen_of_row w7 g 1 _ _ hr7
            have f2 := frozen_of_row w7 g 2 _ _ hr7
            have dd0 : w7.cell? ⟨g, 0, none⟩ = some (.string ⟨#[]⟩) := cell_of_row w7 g 0 _ _ (0, 0) hr7
            have dd1 : w7.cell? ⟨g, 1, none⟩ = some (.bool false) := cell_of_row w7 g 1 _ _ (0, 0) hr7
            have dd2 : w7.cell? ⟨g, 2, none⟩ = some (.slice none 0 0) := cell_of_row w7 g 2 _ _ (0, 0) hr7
            clear hown7 hb7 hm7 hr7
            refine hK.out _ _ hk (fun _ => ?_)
            clear hK K
            try simp only [Act.put, List.setIfInBounds_toArray, List.set_cons_zero, List.set_cons_succ]
            refine wpAnyH_take (i := 4) (oi := ⟨some 53, .build 167 #[(0, .tmp 50), (2, .tmp 52)], 167, "store.go:134", #[⟨1, .data⟩, ⟨3, .data⟩], none⟩) (v := ?vtch96) rfl (by kernel_rfl) (by kernel_rfl) (by kernel_rfl) (fun _ _ _ h => h) (Or.inl ⟨by rfl, ?ytch96⟩) hk ?rtch96
            case ytch96 => (intro w hSw; (try dsimp only at hSw); go_simp; first | done | with_reducible rfl)
            simp only [Act.put, List.setIfInBounds_toArray, List.set_cons_zero, List.set_cons_succ]
            refine wpAnyH_ready (rs := [7]) (by decide +kernel) (by simp) ?_
            refine AllReadyH.cons (o := ⟨none, .store 167 (.tmp 2) (.tmp 53), 0, "store.go:134", #[⟨4, .data⟩, ⟨3, .chain⟩, ⟨0, .phase⟩, ⟨1, .phase⟩, ⟨2, .phase⟩, ⟨3, .phase⟩, ⟨4, .phase⟩, { on := 5, ground := Ground.textOnly Departure.lateStores }, { on := 6, ground := Ground.textOnly Departure.lateStores }], none⟩) rfl (fun K hK => ?_) AllReadyH.nil
            rw [if_pos (by rfl)]
            have hr3 := row3 (x := .string (strOf x)) (y := .bool false) (z := .slice a7 n8 c7) HR7.out
            have hb3 := below3 (g := g) (x := .string (strOf x)) (y := .bool false) (z := .slice a7 n8 c7) (bstep HBz.out HBK.out) (by rw [HG.out]; exact Nat.le_refl _)
            have HM8 : Bx (Bts (((w7.setCell ⟨g, 0, none⟩ (.string (strOf x))).setCell ⟨g, 1, none⟩ (.bool false)).setCell ⟨g, 2, none⟩ (.slice a7 n8 c7)) a7 n8 c7 y) := ⟨HM7.out.keep (fun hp p e => other3 w7 g _ _ _ p.block (by have h1 := (HN7.out p e).1; have h2 := (Array.getElem?_eq_some_iff.1 HR.out).1; have h3 := hsk.out; omega)) (by rw [size3]; exact Nat.le_refl _)⟩
            replace hk : Bts (((w7.setCell ⟨g, 0, none⟩ (.string (strOf x))).setCell ⟨g, 1, none⟩ (.bool false)).setCell ⟨g, 2, none⟩ (.slice a7 n8 c7)) a1 n1 d1 x := hk.keep (fun hp p e => other3 w7 g _ _ _ p.block (HXB.out p e)) (by rw [size3]; exact Nat.le_refl _)
            go_simp
            refine hK.out _ _ hk (fun _ => ?_)
            clear hK K
            try simp only [Act.put, List.setIfInBounds_toArray, List.set_cons_zero, List.set_cons_succ]
            refine wpAnyH_take (i := 8) (oi := ⟨some 3, .assign (.tmp 54), 34, "store.go:134", #[⟨5, .data⟩, ⟨7, .chain⟩, ⟨0, .phase⟩, ⟨1, .phase⟩, ⟨2, .phase⟩, ⟨3, .phase⟩, ⟨4, .phase⟩, ⟨5, .phase⟩, { on := 6, ground := Ground.textOnly Departure.lateStores }, ⟨7, .phase⟩], none⟩) (v := ?vtch98) rfl (by kernel_rfl) (by kernel_rfl) (by kernel_rfl) (fun _ _ _ h => h) (Or.inl ⟨by rfl, ?ytch98⟩) hk ?rtch98
            case ytch98 => (intro w hSw; (try dsimp only at hSw); go_simp; first | done | with_reducible rfl)
            simp only [Act.put, List.setIfInBounds_toArray, List.set_cons_zero, List.set_cons_succ]
            refine wpAnyH_take (i := 9) (oi := ⟨some 4, .assign (.tmp 55), 4, "store.go:134", #[⟨6, .data⟩, ⟨8, .chain⟩, ⟨0, .phase⟩, ⟨1, .phase⟩, ⟨2, .phase⟩, ⟨3, .phase⟩, ⟨4, .phase⟩, ⟨5, .phase⟩, ⟨6, .phase⟩, ⟨7, .phase⟩, ⟨8, .phase⟩], none⟩) (v := ?vtch99) rfl (by kernel_rfl) (by kernel_rfl) (by kernel_rfl) (fun _ _ _ h => h) (Or.inl ⟨by rfl, ?ytch99⟩) hk ?rtch99
            case ytch99 => (intro w hSw; (try dsimp only at hSw); go_simp; first | done | with_reducible rfl)
            simp only [Act.put, List.setIfInBounds_toArray, List.set_cons_zero, List.set_cons_succ]
            refine wpAnyH_done (by decide +kernel) ?_ _
            have HN8 : Bx (0 < n8 → ∀ p, a7 = some p → w.heap.size ≤ p.block ∧ Unf (((w7.setCell ⟨g, 0, none⟩ (.string (strOf x))).setCell ⟨g, 1, none⟩ (.bool false)).setCell ⟨g, 2, none⟩ (.slice a7 n8 c7)) p.block) := ⟨fun _ p e => by
              have h1 := (HN7.out p e).1; have h2 := hsk.out; have h3 := HBz.out.size; have h4 := (Array.getElem?_eq_some_iff.1 HR.out).1
              exact ⟨by omega, (HN7.out p e).2.keep (other3 w7 g _ _ _ p.block (by omega))⟩⟩
            generalize ((w7.setCell ⟨g, 0, none⟩ (.string (strOf x))).setCell ⟨g, 1, none⟩ (.bool false)).setCell ⟨g, 2, none⟩ (.slice a7 n8 c7) = w9 at hr3 hb3 HM8 HN8 ⊢
            have e0 : w9.cell? ⟨g, 0, none⟩ = some (.string (strOf x)) := cell_of_row w9 g 0 _ _ (0, 0) hr3
            have e1 : w9.cell? ⟨g, 1, none⟩ = some (.bool false) := cell_of_row w9 g 1 _ _ (0, 0) hr3
            have e2 : w9.cell? ⟨g, 2, none⟩ = some (.slice a7 n8 c7) := cell_of_row w9 g 2 _ _ (0, 0) hr3
            clear hk HBK HM7 HN7 HR7 HR HX HY
            go_wp2_with fail
            exact bodyPost_ret (v := .tuple #[.agg #[.string (strOf x), .bool false, .slice a7 n8 c7], .slice a9 n9 d9, .bool true]) (by simp [results, Tryz.results160, go_sem, e0, e1, e2]) rfl ⟨hb3, .inr ⟨_, r2, a7, n8, c7, a9, n9, d9, HT2.out, rfl, HM8.out, HN8.out, HR9.out.1, HR9.out.2⟩⟩
        · skip
          -- the key's bytes
          have HTL2 : Bx (Bts (w.alloc (.cells #[.string ⟨#[]⟩, .bool false, .slice none 0 0] 167)) (some ⟨b, off + 1, none⟩) (len - 1) (cap - 1) t) := ⟨HTL.out.below ((Below.refl _ _).alloc (Nat.le_refl _) _)⟩
          have HR0 : Bx ((w.alloc (.cells #[.string ⟨#[]⟩, .bool false, .slice none 0 0] 167)).heap[w.heap.size]? = some (.cells #[.string ⟨#[]⟩, .bool false, .slice none 0 0] 167 (0, 0))) := ⟨heap_alloc_new w _⟩
          have HB0 : Bx (Below w.heap.size w (w.alloc (.cells #[.string ⟨#[]⟩, .bool false, .slice none 0 0] 167))) := ⟨(Below.refl _ _).alloc (Nat.le_refl _) _⟩
          have HC0 : Bx ((w.alloc (.cells #[.string ⟨#[]⟩, .bool false, .slice none 0 0] 167)).cell? ⟨b, off, none⟩ = some (.int .u8 1)) := ⟨(HB0.out.cell (p := ⟨b, off, none⟩) hb).trans hbk⟩
          go_enter Tryz.func160, Tryz.ntmps160
          go_wp2_with fail
          generalize w.alloc (.cells #[.string ⟨#[]⟩, .bool false, .slice none 0 0] 167) = w0 at HTL2 HR0 HB0 HC0 ⊢
          obtain ⟨g, HG⟩ : ∃ g, Bx (g = w.heap.size) := ⟨_, ⟨rfl⟩⟩
          rw [← HG.out] at HR0 ⊢
          refine (takebytes_any _ _ _ _ _ HTL2.out).mono ?_
          rintro e w1 ⟨⟨q1, hq1⟩, hres⟩
          have HB1 : Bx (Below w.heap.size w w1) := ⟨by rw [hq1]; exact below_drewN HB0.out q1⟩
          have HR1 : Bx (w1.heap[g]? = some (.cells #[.string ⟨#[]⟩, .bool false, .slice none 0 0] 167 (0, 0))) := ⟨by rw [hq1]; exact HR0.out⟩
          have hbk1 : w1.cell? ⟨b, off, none⟩ = some (.int .u8 1) := by rw [hq1]; exact HC0.out
          have HBW : Bx (∀ {a n c l}, Bts w0 a n c l → Bts w1 a n c l) := ⟨fun h => by rw [hq1]; exact h.drewN q1⟩
          have HBW2 : Bx (∀ {a n c} {l : List Int}, Bts w0 a n c l → (∀ p, a = some p → ∃ q, (some ⟨b, off, none⟩ : Option Addr) = some q ∧ p.block = q.block) → Bts w a n c l) := ⟨fun {a n c l} h hp => ⟨h.len_eq, h.byt, h.le_cap, h.cap_le, h.nil, fun h0 => by
            obtain ⟨b', off', e, _, hc⟩ := h.spot h0
            obtain ⟨q, hq, hqb⟩ := hp _ e
            cases hq
            obtain rfl : b' = b := hqb
            exact ⟨_, _, e, hb, fun i hi => (HB0.out.cell (p := ⟨_, off' + i, none⟩) hb).symm.trans (hc i hi)⟩⟩⟩
          have c0 : w1.cell? ⟨g, 0, none⟩ = some (.string ⟨#[]⟩) := cell_of_row w1 g 0 _ _ (0, 0) HR1.out
          have c1 : w1.cell? ⟨g, 1, none⟩ = some (.bool false) := cell_of_row w1 g 1 _ _ (0, 0) HR1.out
          have c2 : w1.cell? ⟨g, 2, none⟩ = some (.slice none 0 0) := cell_of_row w1 g 2 _ _ (0, 0) HR1.out
          have f0 := frozen_of_row w1 g 0 _ _ HR1.out
          have f1 := frozen_of_row w1 g 1 _ _ HR1.out
          have f2 := frozen_of_row w1 g 2 _ _ HR1.out
          clear hq1 HTL2 HR0 HB0 HC0 hbk
          rcases hres with ⟨hpn, rfl⟩ | ⟨x, r, a1, n1, d1, a2, n2, d2, hps, rfl, hx, hr, kx, kr⟩
          · have HT2 : Bx (tk (1 :: t) = none) := ⟨tk_pn hpn⟩
            clear hpn
            go_wp2_with fail
            have hr3 := row3 (x := .string ⟨#[]⟩) (y := .bool false) (z := .slice none 0 0) HR1.out
            have hb3 := below3 (g := g) (x := .string ⟨#[]⟩) (y := .bool false) (z := .slice none 0 0) HB1.out (by rw [HG.out]; exact Nat.le_refl _)
            generalize ((w1.setCell ⟨g, 0, none⟩ (.string ⟨#[]⟩)).setCell ⟨g, 1, none⟩ (.bool false)).setCell ⟨g, 2, none⟩ (.slice none 0 0) = w9 at hr3 hb3 ⊢
            have e0 : w9.cell? ⟨g, 0, none⟩ = some (.string ⟨#[]⟩) := cell_of_row w9 g 0 _ _ (0, 0) hr3
            have e1 : w9.cell? ⟨g, 1, none⟩ = some (.bool false) := cell_of_row w9 g 1 _ _ (0, 0) hr3
            have e2 : w9.cell? ⟨g, 2, none⟩ = some (.slice none 0 0) := cell_of_row w9 g 2 _ _ (0, 0) hr3
            exact bodyPost_ret (v := .tuple #[.agg #[.string ⟨#[]⟩, .bool false, .slice none 0 0], .slice none 0 0, .bool false]) (by simp [results, Tryz.results160, go_sem, e0, e1, e2]) rfl ⟨hb3, .inl ⟨HT2.out, _, _, _, _, _, _, _, _, rfl⟩⟩
          have HT2 := Bx.mk (tk_oneS hps)
          have hcv := (HBW.out hx).str
          clear hps
          go_wp2_with fail
          have hr3 := row3 (x := .string (strOf x)) (y := .bool true) (z := .slice none 0 0) HR1.out
          have hb3 := below3 (g := g) (x := .string (strOf x)) (y := .bool true) (z := .slice none 0 0) HB1.out (by rw [HG.out]; exact Nat.le_refl _)
          generalize ((w1.setCell ⟨g, 0, none⟩ (.string (strOf x))).setCell ⟨g, 1, none⟩ (.bool true)).setCell ⟨g, 2, none⟩ (.slice none 0 0) = w9 at hr3 hb3 ⊢
          have e0 : w9.cell? ⟨g, 0, none⟩ = some (.string (strOf x)) := cell_of_row w9 g 0 _ _ (0, 0) hr3
          have e1 : w9.cell? ⟨g, 1, none⟩ = some (.bool true) := cell_of_row w9 g 1 _ _ (0, 0) hr3
          have e2 : w9.cell? ⟨g, 2, none⟩ = some (.slice none 0 0) := cell_of_row w9 g 2 _ _ (0, 0) hr3
          have kr2 : ∀ p, a2 = some p → ∃ q, (some ⟨b, off, none⟩ : Option Addr) = some q ∧ p.block = q.block := fun p e => by
            obtain ⟨q, hq, hqb⟩ := kr p e
            cases hq
            exact ⟨_, rfl, hqb⟩
          exact bodyPost_ret (v := .tuple #[.agg #[.string (strOf x), .bool true, .slice none 0 0], .slice a2 n2 d2, .bool true]) (by simp [results, Tryz.results160, go_sem, e0, e1, e2]) rfl ⟨hb3, .inr ⟨_, r, none, 0, 0, a2, n2, d2, HT2.out, rfl, ⟨rfl, Byt.nil, Nat.le_refl _, Nat.zero_le _, fun _ => rfl, fun hp => absurd hp (Nat.lt_irrefl _)⟩, fun hp => absurd hp (Nat.lt_irrefl _), HBW2.out hr kr2, kr2⟩⟩
end Go.Proofs.YtipakjenggeflaaGreatDoor
namespace Go.Proofs.YtipakjenggeflaaGreatDoor
open Go.RowKit
set_option linter.unusedVariables false

set_option maxRecDepth 100000 in
theorem Tryz.infoC : (Tryz.prog.info? 167).map (fun i => (i.zero, i.size, i.bytes)) = some (some (.agg #[.string ⟨#[]⟩, .bool false, .slice none 0 0]), 3, 48) := by kernel_rfl
/-- what Decode answers -/
def DCP (l : List Int) (w : World) (e : Ending) (w' : World) : Prop :=
  Below w.heap.size w w' ∧ ((decL l = none ∧ e = .returned (.tuple #[.slice none 0 0, .int .i64 4])) ∨
    ∃ L v, decL l = some L ∧ e = .returned (.tuple #[v, .int .i64 0]) ∧ CLS w' (fun k => w.heap.size ≤ k ∧ k < w'.heap.size) v L)
def pre (P : List Chg) (o : Option (List Chg × List Int)) : Option (List Chg × List Int) := o.map (fun p => (P ++ p.1, p.2))
set_option maxRecDepth 100000 in
theorem pre_nil (o : Option (List Chg × List Int)) : pre [] o = o := by
  cases o with
  | none => rfl
  | some p => simp [pre]
set_option maxRecDepth 100000 in
theorem tks_step {m : Nat} {R r : List Int} {c : Chg} (P : List Chg) (h : tk R = some (c, r)) : pre P (tks (m + 1) R) = pre (P ++ [c]) (tks m r) := by
  rw [tks, h]
  dsimp only
  cases tks m r with
  | none => rfl
  | some p => simp [pre]
set_option maxRecDepth 100000 in
theorem tks_no {m : Nat} {R : List Int} (P : List Chg) (h : tk R = none) : pre P (tks (m + 1) R) = none := by
  rw [tks, h]; rfl
set_option maxRecDepth 100000 in
theorem dec_tn {l : List Int} {n m : Nat} (hr : rd l 0 0 = ((n : Int), (m : Int), 0)) (h : tks n (l.drop m) = none) : decL l = none := by
  unfold decL
  rw [hr]
  dsimp only
  rw [Int.toNat_natCast, Int.toNat_natCast, h]
  split <;> rfl
set_option maxRecDepth 100000 in
theorem dec_ts {l r : List Int} {L : List Chg} {n m : Nat} (hr : rd l 0 0 = ((n : Int), (m : Int), 0)) (hn : n ≤ 16) (h : tks n (l.drop m) = some (L, r)) : decL l = if r = [] ∧ chkL L = 0 then some L else none := by
  unfold decL
  rw [hr]
  dsimp only
  rw [Int.toNat_natCast, Int.toNat_natCast, h, if_pos ⟨rfl, by omega⟩]
set_option maxRecDepth 100000 in
theorem pre_done (P : List Chg) (R : List Int) : pre P (tks 0 R) = some (P, R) := by simp [pre, tks]
set_option maxRecDepth 100000 in
theorem dec_no {l : List Int} {n : Nat} {m e : Int} (hr : rd l 0 0 = ((n : Int), m, e)) (hn : e ≠ 0 ∨ 16 < n) : decL l = none := by
  unfold decL
  rw [hr]
  dsimp only
  rw [if_neg (by omega)]
set_option maxRecDepth 100000 in
set_option maxHeartbeats 4000000 in
set_option maxRecDepth 100000 in
theorem decode_anyS (ao : Option Addr) (len cap : Nat) (l : List Int) (w : World) (h : Bts w ao len cap l) (hbig : len ≤ 1099511627776) :
    Calls Tryz.prog 85 #[.slice ao len cap] w fun e w' => DCP l w e w' := by
  have HB : Bx (Bts w ao len cap l) := ⟨h⟩
  have hl := h.len_eq
  have hcl := h.le_cap
  have hcm := h.cap_le
  unfold maxLen at hcm
  obtain ⟨n, m, ec, hr, hn, hm, hec⟩ := rd_facts h.byt
  rw [hl] at hm
  have HRD : Bx (rd l 0 0 = ((n : Int), (m : Int), ec)) := ⟨hr⟩
  have HBYT : Bx (Byt l) := ⟨h.byt⟩
  clear hr hl h
  go_enter Tryz.func85, Tryz.ntmps85
  go_wp2_with fail
  refine (readvar_any ao len cap l _ HB.out).mono ?_
  rintro e w1 ⟨rfl, rfl⟩
  rw [HRD.out]
  unfold rdVal
  by_cases he : ec = 0
  · subst he
    obtain ⟨hm1, hm2⟩ := hm rfl
    clear hm hec
    by_cases hn16 : n ≤ 16
    · have g1 : decide ((n : Int) > 16) = false := by simp; omega
      have g1b : decide (16 < n) = false := by simp; omega
      have g2 : (m : Int) ≤ (len : Int) := by omega
      have g3 : (m : Int) ≤ (cap : Int) := by omega
      obtain ⟨b, off, rfl, hb⟩ : ∃ b off, ao = some ⟨b, off, none⟩ ∧ b < w.heap.size := by
        obtain ⟨b, off, e, h1, _⟩ := HB.out.spot (by omega)
        exact ⟨b, off, e, h1⟩
      have hRest : ∃ off2, ((cap = m ∧ off2 = off) ∨ (¬ cap = m ∧ off2 = off + m)) ∧ Bts w (some ⟨b, off2, none⟩) (len - m) (cap - m) (l.drop m) := by
        by_cases hc : cap = m
        · refine ⟨off, .inl ⟨hc, rfl⟩, ?_⟩
          have e3 : l.drop m = [] := List.drop_eq_nil_of_le (by rw [HB.out.len_eq]; omega)
          rw [e3, show len - m = 0 from by omega, show cap - m = 0 from by omega]
          exact ⟨rfl, Byt.nil, Nat.le_refl _, Nat.zero_le _, fun _ => rfl, fun hp => absurd hp (Nat.lt_irrefl _)⟩
        · refine ⟨off + m, .inr ⟨hc, rfl⟩, (HB.out.part m (len - m) (cap - m) (by omega) (by omega) (by unfold maxLen; omega)).list ?_⟩
          rw [List.take_of_length_le (by rw [List.length_drop, HB.out.len_eq]; omega)]
      obtain ⟨off2, hor, hbr⟩ := hRest
      have HBR : Bx (Bts w (some ⟨b, off2, none⟩) (len - m) (cap - m) (l.drop m)) := ⟨hbr⟩
      have hgo : (cap = m ∧ off2 = off) ∨ (¬ cap = m ∧ off2 = off + m) := hor
      clear hor hbr
      rcases hgo with ⟨hc, rfl⟩ | ⟨hc, rfl⟩
      · have e1 : len - m = 0 := by omega
        have e2 : cap - m = 0 := by omega
        rw [e1, e2] at HBR
        go_wp2_with fail
        go_loopw [7, 8, 28] (fun rv v i wr => ∃ (k : Nat) (P : List Chg) (R : List Int) (ar : Option Addr) (nr cr : Nat), k ≤ n ∧ i = .int .u64 k ∧ rv = .slice ar nr cr ∧ Bx (Bts w ar nr cr R ∧ nr ≤ 1099511627776 ∧ (∀ p, ar = some p → p.block = b)) ∧ Bx (CLS wr (fun k => w.heap.size ≤ k) v P ∧ P.length = k) ∧ Below w.heap.size w wr ∧ Bx (tks n (l.drop m) = pre P (tks (n - k) R))) (fun _ _ i _ => n - (intOf i).toNat)
        case atStart => exact ⟨0, [], l.drop m, _, _, _, Nat.zero_le _, rfl, rfl, ⟨HBR.out, by omega, fun p e => by cases e; rfl⟩, ⟨RL.nil _ _, rfl⟩, Below.refl _ _, ⟨by rw [pre_nil]; rfl⟩⟩
        case round =>
          clear HBR
          obtain ⟨k, P, R, ar, nr, cr, hk, rfl, rfl, HR, HP, hbw, HT⟩ := hrel
          obtain ⟨vP, hvP⟩ : ∃ x, x = u8 := ⟨_, rfl⟩
          subst hvP
          have hnr := HR.out.2.1
          by_cases hlt : k < n
          · have hkI : (k : Int) < (n : Int) := by omega
            have HRr : Bx (Bts wr ar nr cr R) := ⟨HR.out.1.below hbw⟩
            have hnk : n - k = (n - (k + 1)) + 1 := by omega
            go_wp2_with fail
            refine (takechange_any ar nr cr R _ HRr.out hnr).mono ?_
            rintro e w2 ⟨hb2, hres⟩
            rcases hres with ⟨htn, kk, dd, a1, n1, c1, a2, n2, c2, rfl⟩ | ⟨c, r, a1, n1, c1, a2, n2, c2, hts, rfl, hval, hnew, hrest, hblk⟩
            · have HD : Bx (decL l = none) := ⟨dec_tn HRD.out (by rw [HT.out, hnk, tks_no P htn])⟩
              have hbw2 := bstep hbw hb2
              clear htn HT hb2
              go_wp2_with fail
              go_ret2
              exact ⟨hbw2.alloc hbw2.size _, .inl ⟨HD.out, rfl⟩⟩
            · have HT2 : Bx (tks n (l.drop m) = pre (P ++ [c]) (tks (n - (k + 1)) r)) := ⟨by rw [HT.out, hnk, tks_step P hts]⟩
              have hbw2 := bstep hbw hb2
              obtain ⟨Z, hown, HRA⟩ := (HP.out.1.below hb2).open
              have HLEN : Bx (k = P.length) := ⟨HP.out.2.symm⟩
              rw [← HLEN.out] at hown
              obtain ⟨key, del, val⟩ := c
              have HV : Bx (Bts w2 a1 n1 c1 val ∧ (0 < n1 → ∀ p, a1 = some p → w.heap.size ≤ p.block ∧ vP.ownBlock ≠ some p.block ∧ Unf w2 p.block)) := ⟨hval, fun hp p e => ⟨by have := (hnew hp p e).1; have := hbw.size; omega, fun e2 => by have h1 := (hnew hp p e).1; have h2 := HP.out.1.lt e2; omega, (hnew hp p e).2⟩⟩
              have HRS : Bx (Bts w a2 n2 c2 r ∧ n2 ≤ 1099511627776 ∧ (∀ p, a2 = some p → p.block = b)) := by
                have hkb : ∀ p, a2 = some p → p.block = b := fun p e => by
                  obtain ⟨q, hq, hqb⟩ := hblk p e
                  rw [hqb]; exact HR.out.2.2 q hq
                refine ⟨⟨hrest.len_eq, hrest.byt, hrest.le_cap, hrest.cap_le, hrest.nil, fun h0 => ?_⟩, ?_, hkb⟩
                · obtain ⟨b', off', e, _, hc⟩ := hrest.spot h0
                  have hb' : b' = b := hkb _ e
                  subst hb'
                  exact ⟨_, _, e, hb, fun i hi => (hbw.cell (p := ⟨_, off' + i, none⟩) hb).symm.trans (hc i hi)⟩
                · have h1 := (tk_back HRr.out.byt hts).2.2.2.1
                  have h2 := HRr.out.len_eq
                  have h3 := hrest.len_eq
                  omega
              have HB2 : Bx (Below w.heap.size w w2) := ⟨hbw2⟩
              have HVB : Bx (∀ j, vP.ownBlock = some j → w.heap.size ≤ j ∧ j < w2.heap.size) := ⟨fun j hj => ⟨HP.out.1.ob j hj, by have := HP.out.1.lt hj; have := hb2.size; omega⟩⟩
              have hs2 := hbw2.size
              obtain ⟨wA, HWA⟩ : ∃ wA, Bx (wA = (w2.alloc (.cells #[.string key, .bool del, .slice a1 n1 c1] 167)).alloc (.cells #[.string key, .bool del, .slice a1 n1 c1] 167)) := ⟨_, ⟨rfl⟩⟩
              have HBA : Bx (Below w2.heap.size w2 ((w2.alloc (.cells #[.string key, .bool del, .slice a1 n1 c1] 167)).alloc (.cells #[.string key, .bool del, .slice a1 n1 c1] 167))) := ⟨((Below.refl _ _).alloc (Nat.le_refl _) _).alloc (by simp) _⟩
              have hownA : ((w2.alloc (.cells #[.string key, .bool del, .slice a1 n1 c1] 167)).alloc (.cells #[.string key, .bool del, .slice a1 n1 c1] 167)).ownsRow 0 167 3 vP k (Z.flatMap chE) := (hown.alloc _).alloc _
              have hnews := World.news_of_block (heap_alloc_new (w2.alloc (.cells #[.string key, .bool del, .slice a1 n1 c1] 167)) (.cells #[.string key, .bool del, .slice a1 n1 c1] 167))
              rw [World.size_alloc] at hnews
              have HNW : Bx _ := ⟨hnews⟩
              have HOA : Bx _ := ⟨hownA⟩
              obtain ⟨i0, hi, hz0, hz1, hz2⟩ := info_parts Tryz.infoC
              clear hts hval hnew hrest hblk hown hownA hnews HT hbw2 hb2 HRr
              go_wp2_with (at_builtin; refine wpList_append_lies _ rfl (.tmp 38) (.tmp 40) 155 rfl 0 167 i0 (.agg #[.string ⟨#[]⟩, .bool false, .slice none 0 0]) 3 48 Tryz.underlying155 hi hz0 hz1 hz2 rfl (by decide) _ k (Z.flatMap chE) rfl HOA.out ⟨w2.heap.size + 1, 0, none⟩ 1 1 [.string key, .bool del, .slice a1 n1 c1] rfl rfl HNW.out (by simp [Value.oneCell']) (by decide) (by unfold maxLen; omega) (by omega) (Nat.zero_le _) _ rfl ?_)
              intro g4 cap4 w4 hown4 hgr4 hl4 hlt4
              have hg4 : w.heap.size ≤ g4 := by
                rcases hl4 with h1 | h1
                · exact (HVB.out g4 h1).1
                · omega
              have HP4 : Bx (CLS w4 (fun k => w.heap.size ≤ k) (.slice (some ⟨g4, 0, none⟩) (k + 1) cap4) (P ++ [⟨key, del, val⟩]) ∧ (P ++ [⟨key, del, val⟩] : List Chg).length = k + 1) := ⟨HRA.out.done (z := ⟨⟨key, del, val⟩, a1, n1, c1⟩) HLEN.out rfl HV.out.1 HV.out.2 HBA.out hown4 hgr4 (by rcases hl4 with h1 | h1; exact .inl h1; exact .inr (by omega)) (fun _ h => h) hg4, by rw [List.length_append, ← HLEN.out]; rfl⟩
              have hK4 : Below w.heap.size w w4 := (bstep HB2.out HBA.out).grown hgr4 (by have := HBA.out.size; omega) (fun j hj => (HVB.out j hj).1)
              clear hown4 hgr4 hl4 HNW HOA HV HVB HRA HP HB2 HBA HWA hi hz0 hz1 hz2 hg4 hlt4
              go_wp2_with fail
              go_roundw
              case rel => exact ⟨k + 1, _, r, a2, n2, c2, by omega, by go_num, rfl, HRS, HP4, hK4, HT2⟩
              case measure => simp [intOf]; omega
          · have hkn : k = n := by omega
            have hkI : ¬ (k : Int) < (n : Int) := by omega
            have HTS : Bx (tks n (l.drop m) = some (P, R)) := ⟨by rw [HT.out, hkn, Nat.sub_self, pre_done]⟩
            have HDC : Bx (decL l = if R = [] ∧ chkL P = 0 then some P else none) := ⟨dec_ts HRD.out hn16 HTS.out⟩
            obtain ⟨aP, cP, rfl, hPT⟩ := HP.out.1.rt chE_len
            have HPT : Bx (CT (fun k => w.heap.size ≤ k) wr aP P.length cP P) := ⟨hPT⟩
            have hcmP := hPT.cap_le
            unfold maxLen at hcmP
            have hRl := HR.out.1.len_eq
            have HKS : Bx (∀ c ∈ P, c.key.size ≤ 9223372036854775807) := ⟨fun c hc => by
              have h1 := (tks_back (fun x hx => HBYT.out x (List.mem_of_mem_drop hx)) HTS.out).2.2.2 c hc
              have h2 : (l.drop m).length ≤ l.length := by rw [List.length_drop]; omega
              have h3 := HB.out.len_eq
              omega⟩
            clear HT hPT hkn
            by_cases hRz : 0 < nr
            · have HD : Bx (decL l = none) := ⟨by rw [HDC.out, if_neg (fun hh => by rw [hh.1] at hRl; simp at hRl; omega)]⟩
              have g4 : decide ((nr : Int) > 0) = true := by simp; omega
              clear HDC
              go_wp2_with fail
              go_ret2
              exact ⟨hbw, .inl ⟨HD.out, rfl⟩⟩
            · have hR0 : Bx (R = []) := ⟨List.eq_nil_of_length_eq_zero (by omega)⟩
              have g4 : decide ((nr : Int) > 0) = false := by simp; omega
              have g5 : decide (0 < nr) = false := by simp; omega
              go_wp2_with fail
              refine (check_anyS _ aP P.length cP P _ HPT.out HKS.out).mono ?_
              rintro e w5 ⟨rfl, hb5⟩
              have hbw5 := bstep hbw hb5
              by_cases hY : chkL P = 0
              · have HD : Bx (decL l = some P) := ⟨by rw [HDC.out, if_pos ⟨hR0.out, hY⟩]⟩
                have hCL5 : Bx (CLS w5 (fun k => w.heap.size ≤ k ∧ k < w5.heap.size) (.slice aP P.length cP) P) := ⟨HP.out.1.keep (fun j hj _ => hb5.block j hj) hb5.size (fun j hj ho => ⟨ho, Nat.lt_of_lt_of_le hj hb5.size⟩)⟩
                rw [hY]
                clear hY HDC HP HPT
                go_wp2_with fail
                go_ret2
                exact ⟨hbw5, .inr ⟨P, _, HD.out, rfl, hCL5.out⟩⟩
              · have HD : Bx (decL l = none) := ⟨by rw [HDC.out, if_neg (fun hh => hY hh.2)]⟩
                have g6 : (chkL P != 0) = true := by simp [hY]
                generalize chkL P = Y at g6 HDC ⊢
                clear hY HDC HP HPT
                go_wp2_with fail
                go_ret2
                exact ⟨hbw5, .inl ⟨HD.out, rfl⟩⟩
      · go_wp2_with fail
        go_loopw [7, 8, 28] (fun rv v i wr => ∃ (k : Nat) (P : List Chg) (R : List Int) (ar : Option Addr) (nr cr : Nat), k ≤ n ∧ i = .int .u64 k ∧ rv = .slice ar nr cr ∧ Bx (Bts w ar nr cr R ∧ nr ≤ 1099511627776 ∧ (∀ p, ar = some p → p.block = b)) ∧ Bx (CLS wr (fun k => w.heap.size ≤ k) v P ∧ P.length = k) ∧ Below w.heap.size w wr ∧ Bx (tks n (l.drop m) = pre P (tks (n - k) R))) (fun _ _ i _ => n - (intOf i).toNat)
        case atStart => exact ⟨0, [], l.drop m, _, _, _, Nat.zero_le _, rfl, rfl, ⟨HBR.out, by omega, fun p e => by cases e; rfl⟩, ⟨RL.nil _ _, rfl⟩, Below.refl _ _, ⟨by rw [pre_nil]; rfl⟩⟩
        case round =>
          clear HBR
          obtain ⟨k, P, R, ar, nr, cr, hk, rfl, rfl, HR, HP, hbw, HT⟩ := hrel
          obtain ⟨vP, hvP⟩ : ∃ x, x = u8 := ⟨_, rfl⟩
          subst hvP
          have hnr := HR.out.2.1
          by_cases hlt : k < n
          · have hkI : (k : Int) < (n : Int) := by omega
            have HRr : Bx (Bts wr ar nr cr R) := ⟨HR.out.1.below hbw⟩
            have hnk : n - k = (n - (k + 1)) + 1 := by omega
            go_wp2_with fail
            refine (takechange_any ar nr cr R _ HRr.out hnr).mono ?_
            rintro e w2 ⟨hb2, hres⟩
            rcases hres with ⟨htn, kk, dd, a1, n1, c1, a2, n2, c2, rfl⟩ | ⟨c, r, a1, n1, c1, a2, n2, c2, hts, rfl, hval, hnew, hrest, hblk⟩
            · have HD : Bx (decL l = none) := ⟨dec_tn HRD.out (by rw [HT.out, hnk, tks_no P htn])⟩
              have hbw2 := bstep hbw hb2
              clear htn HT hb2
              go_wp2_with fail
              go_ret2
              exact ⟨hbw2.alloc hbw2.size _, .inl ⟨HD.out, rfl⟩⟩
            · have HT2 : Bx (tks n (l.drop m) = pre (P ++ [c]) (tks (n - (k + 1)) r)) := ⟨by rw [HT.out, hnk, tks_step P hts]⟩
              have hbw2 := bstep hbw hb2
              obtain ⟨Z, hown, HRA⟩ := (HP.out.1.below hb2).open
              have HLEN : Bx (k = P.length) := ⟨HP.out.2.symm⟩
              rw [← HLEN.out] at hown
              obtain ⟨key, del, val⟩ := c
              have HV : Bx (Bts w2 a1 n1 c1 val ∧ (0 < n1 → ∀ p, a1 = some p → w.heap.size ≤ p.block ∧ vP.ownBlock ≠ some p.block ∧ Unf w2 p.block)) := ⟨hval, fun hp p e => ⟨by have := (hnew hp p e).1; have := hbw.size; omega, fun e2 => by have h1 := (hnew hp p e).1; have h2 := HP.out.1.lt e2; omega, (hnew hp p e).2⟩⟩
              have HRS : Bx (Bts w a2 n2 c2 r ∧ n2 ≤ 1099511627776 ∧ (∀ p, a2 = some p → p.block = b)) := by
                have hkb : ∀ p, a2 = some p → p.block = b := fun p e => by
                  obtain ⟨q, hq, hqb⟩ := hblk p e
                  rw [hqb]; exact HR.out.2.2 q hq
                refine ⟨⟨hrest.len_eq, hrest.byt, hrest.le_cap, hrest.cap_le, hrest.nil, fun h0 => ?_⟩, ?_, hkb⟩
                · obtain ⟨b', off', e, _, hc⟩ := hrest.spot h0
                  have hb' : b' = b := hkb _ e
                  subst hb'
                  exact ⟨_, _, e, hb, fun i hi => (hbw.cell (p := ⟨_, off' + i, none⟩) hb).symm.trans (hc i hi)⟩
                · have h1 := (tk_back HRr.out.byt hts).2.2.2.1
                  have h2 := HRr.out.len_eq
                  have h3 := hrest.len_eq
                  omega
              have HB2 : Bx (Below w.heap.size w w2) := ⟨hbw2⟩
              have HVB : Bx (∀ j, vP.ownBlock = some j → w.heap.size ≤ j ∧ j < w2.heap.size) := ⟨fun j hj => ⟨HP.out.1.ob j hj, by have := HP.out.1.lt hj; have := hb2.size; omega⟩⟩
              have hs2 := hbw2.size
              obtain ⟨wA, HWA⟩ : ∃ wA, Bx (wA = (w2.alloc (.cells #[.string key, .bool del, .slice a1 n1 c1] 167)).alloc (.cells #[.string key, .bool del, .slice a1 n1 c1] 167)) := ⟨_, ⟨rfl⟩⟩
              have HBA : Bx (Below w2.heap.size w2 ((w2.alloc (.cells #[.string key, .bool del, .slice a1 n1 c1] 167)).alloc (.cells #[.string key, .bool del, .slice a1 n1 c1] 167))) := ⟨((Below.refl _ _).alloc (Nat.le_refl _) _).alloc (by simp) _⟩
              have hownA : ((w2.alloc (.cells #[.string key, .bool del, .slice a1 n1 c1] 167)).alloc (.cells #[.string key, .bool del, .slice a1 n1 c1] 167)).ownsRow 0 167 3 vP k (Z.flatMap chE) := (hown.alloc _).alloc _
              have hnews := World.news_of_block (heap_alloc_new (w2.alloc (.cells #[.string key, .bool del, .slice a1 n1 c1] 167)) (.cells #[.string key, .bool del, .slice a1 n1 c1] 167))
              rw [World.size_alloc] at hnews
              have HNW : Bx _ := ⟨hnews⟩
              have HOA : Bx _ := ⟨hownA⟩
              obtain ⟨i0, hi, hz0, hz1, hz2⟩ := info_parts Tryz.infoC
              clear hts hval hnew hrest hblk hown hownA hnews HT hbw2 hb2 HRr
              go_wp2_with (at_builtin; refine wpList_append_lies _ rfl (.tmp 38) (.tmp 40) 155 rfl 0 167 i0 (.agg #[.string ⟨#[]⟩, .bool false, .slice none 0 0]) 3 48 Tryz.underlying155 hi hz0 hz1 hz2 rfl (by decide) _ k (Z.flatMap chE) rfl HOA.out ⟨w2.heap.size + 1, 0, none⟩ 1 1 [.string key, .bool del, .slice a1 n1 c1] rfl rfl HNW.out (by simp [Value.oneCell']) (by decide) (by unfold maxLen; omega) (by omega) (Nat.zero_le _) _ rfl ?_)
              intro g4 cap4 w4 hown4 hgr4 hl4 hlt4
              have hg4 : w.heap.size ≤ g4 := by
                rcases hl4 with h1 | h1
                · exact (HVB.out g4 h1).1
                · omega
              have HP4 : Bx (CLS w4 (fun k => w.heap.size ≤ k) (.slice (some ⟨g4, 0, none⟩) (k + 1) cap4) (P ++ [⟨key, del, val⟩]) ∧ (P ++ [⟨key, del, val⟩] : List Chg).length = k + 1) := ⟨HRA.out.done (z := ⟨⟨key, del, val⟩, a1, n1, c1⟩) HLEN.out rfl HV.out.1 HV.out.2 HBA.out hown4 hgr4 (by rcases hl4 with h1 | h1; exact .inl h1; exact .inr (by omega)) (fun _ h => h) hg4, by rw [List.length_append, ← HLEN.out]; rfl⟩
              have hK4 : Below w.heap.size w w4 := (bstep HB2.out HBA.out).grown hgr4 (by have := HBA.out.size; omega) (fun j hj => (HVB.out j hj).1)
              clear hown4 hgr4 hl4 HNW HOA HV HVB HRA HP HB2 HBA HWA hi hz0 hz1 hz2 hg4 hlt4
              go_wp2_with fail
              go_roundw
              case rel => exact ⟨k + 1, _, r, a2, n2, c2, by omega, by go_num, rfl, HRS, HP4, hK4, HT2⟩
              case measure => simp [intOf]; omega
          · have hkn : k = n := by omega
            have hkI : ¬ (k : Int) < (n : Int) := by omega
            have HTS : Bx (tks n (l.drop m) = some (P, R)) := ⟨by rw [HT.out, hkn, Nat.sub_self, pre_done]⟩
            have HDC : Bx (decL l = if R = [] ∧ chkL P = 0 then some P else none) := ⟨dec_ts HRD.out hn16 HTS.out⟩
            obtain ⟨aP, cP, rfl, hPT⟩ := HP.out.1.rt chE_len
            have HPT : Bx (CT (fun k => w.heap.size ≤ k) wr aP P.length cP P) := ⟨hPT⟩
            have hcmP := hPT.cap_le
            unfold maxLen at hcmP
            have hRl := HR.out.1.len_eq
            have HKS : Bx (∀ c ∈ P, c.key.size ≤ 9223372036854775807) := ⟨fun c hc => by
              have h1 := (tks_back (fun x hx => HBYT.out x (List.mem_of_mem_drop hx)) HTS.out).2.2.2 c hc
              have h2 : (l.drop m).length ≤ l.length := by rw [List.length_drop]; omega
              have h3 := HB.out.len_eq
              omega⟩
            clear HT hPT hkn
            by_cases hRz : 0 < nr
            · have HD : Bx (decL l = none) := ⟨by rw [HDC.out, if_neg (fun hh => by rw [hh.1] at hRl; simp at hRl; omega)]⟩
              have g4 : decide ((nr : Int) > 0) = true := by simp; omega
              clear HDC
              go_wp2_with fail
              go_ret2
              exact ⟨hbw, .inl ⟨HD.out, rfl⟩⟩
            · have hR0 : Bx (R = []) := ⟨List.eq_nil_of_length_eq_zero (by omega)⟩
              have g4 : decide ((nr : Int) > 0) = false := by simp; omega
              have g5 : decide (0 < nr) = false := by simp; omega
              go_wp2_with fail
              refine (check_anyS _ aP P.length cP P _ HPT.out HKS.out).mono ?_
              rintro e w5 ⟨rfl, hb5⟩
              have hbw5 := bstep hbw hb5
              by_cases hY : chkL P = 0
              · have HD : Bx (decL l = some P) := ⟨by rw [HDC.out, if_pos ⟨hR0.out, hY⟩]⟩
                have hCL5 : Bx (CLS w5 (fun k => w.heap.size ≤ k ∧ k < w5.heap.size) (.slice aP P.length cP) P) := ⟨HP.out.1.keep (fun j hj _ => hb5.block j hj) hb5.size (fun j hj ho => ⟨ho, Nat.lt_of_lt_of_le hj hb5.size⟩)⟩
                rw [hY]
                clear hY HDC HP HPT
                go_wp2_with fail
                go_ret2
                exact ⟨hbw5, .inr ⟨P, _, HD.out, rfl, hCL5.out⟩⟩
              · have HD : Bx (decL l = none) := ⟨by rw [HDC.out, if_neg (fun hh => hY hh.2)]⟩
                have g6 : (chkL P != 0) = true := by simp [hY]
                generalize chkL P = Y at g6 HDC ⊢
                clear hY HDC HP HPT
                go_wp2_with fail
                go_ret2
                exact ⟨hbw5, .inl ⟨HD.out, rfl⟩⟩
    · have HD : Bx (decL l = none) := ⟨dec_no HRD.out (.inr (by omega))⟩
      have g1 : decide ((n : Int) > 16) = true := by simp; omega
      have g1b : decide (16 < n) = true := by simp; omega
      go_wp2_with fail
      go_ret2
      exact ⟨Below.refl _ _, .inl ⟨HD.out, rfl⟩⟩
  · have HD : Bx (decL l = none) := ⟨dec_no HRD.out (.inl he)⟩
    have g0 : (ec != 0) = true := by simp [he]
    clear he hm hec
    go_wp2_with fail
    go_ret2
    exact ⟨Below.refl _ _, .inl ⟨HD.out, rfl⟩⟩
end Go.Proofs.YtipakjenggeflaaGreatDoor
