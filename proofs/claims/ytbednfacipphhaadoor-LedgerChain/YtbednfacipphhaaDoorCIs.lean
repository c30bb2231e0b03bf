/- Which two texts clash: the program's Is, the document's own. -/
import Derived.Test.YtbednfacipphhaaDoorBEq
import Derived.Test.YtbednfacipphhaaDoorAuan
import Derived.Test.YtbednfacipphhaaDoorAuaf
import Derived.Test.YtbednfacipphhaaDoorAuaq
import Derived.Test.YtbednfacipphhaaDoorRefSum
import Derived.Test.YtbednfacipphhaaDoorAuaj
import Derived.Test.YtbednfacipphhaaDoorAuat
namespace Go.Proofs.YtbednfacipphhaaDoor
open Go.RowKit
set_option linter.unusedVariables false

/-- what stays while two texts are held against one another: the two, in a variable -/
structure CC (N : Nat) (a b : Option Addr) (n m c d : Nat) (la lb : List Int) (w wr : World) : Prop where
  low : Below N w wr
  row : wr.heap[N]? = some (.cells #[.slice a n c, .slice b m d] 72 (0, 0))
  fst : Bts wr a n c la
  snd : Bts wr b m d lb
  tab : Tab wr
set_option maxRecDepth 100000 in
theorem CC.lt {N : Nat} {a b : Option Addr} {n m c d : Nat} {la lb : List Int} {w wr : World} (h : CC N a b n m c d la lb w wr) : N < wr.heap.size := (Array.getElem?_eq_some_iff.1 h.row).1
set_option maxRecDepth 100000 in
theorem CC.step {N : Nat} {a b : Option Addr} {n m c d : Nat} {la lb : List Int} {w wr w1 : World} (h : CC N a b n m c d la lb w wr) (hb : Below wr.heap.size wr w1) : CC N a b n m c d la lb w w1 :=
  ⟨h.low.trans (hb.mono (Nat.le_of_lt h.lt)), (hb.block _ h.lt).trans h.row, h.fst.below hb, h.snd.below hb, h.tab.below hb⟩
set_option maxRecDepth 100000 in
theorem CC.drewN {N : Nat} {a b : Option Addr} {n m c d : Nat} {la lb : List Int} {w wr : World} (h : CC N a b n m c d la lb w wr) (q : Nat) : CC N a b n m c d la lb w (wr.drewN q) := ⟨below_drewN h.low q, h.row, h.fst.drewN q, h.snd.drewN q, h.tab.drewN q⟩
set_option maxRecDepth 100000 in
theorem CC.c0 {N : Nat} {a b : Option Addr} {n m c d : Nat} {la lb : List Int} {w wr : World} (h : CC N a b n m c d la lb w wr) : wr.cell? ⟨N, 0, none⟩ = some (.slice a n c) := cell_of_row _ _ 0 _ _ (0, 0) h.row
set_option maxRecDepth 100000 in
theorem CC.c1 {N : Nat} {a b : Option Addr} {n m c d : Nat} {la lb : List Int} {w wr : World} (h : CC N a b n m c d la lb w wr) : wr.cell? ⟨N, 1, none⟩ = some (.slice b m d) := cell_of_row _ _ 1 _ _ (0, 0) h.row
set_option maxRecDepth 100000 in
theorem cc_new {a b : Option Addr} {n m c d : Nat} {la lb : List Int} {w : World} (ha : Bts w a n c la) (hb : Bts w b m d lb) (htab : Tab w) : CC w.heap.size a b n m c d la lb w (w.alloc (.cells #[.slice a n c, .slice b m d] 72)) := by
  have hb0 : Below w.heap.size w (w.alloc (.cells #[.slice a n c, .slice b m d] 72)) := (Below.refl _ _).alloc (Nat.le_refl _) _
  exact ⟨hb0, heap_alloc_new _ _, ha.below hb0, hb.below hb0, htab.below hb0⟩

set_option maxRecDepth 100000 in
set_option maxHeartbeats 1000000 in
theorem refis_any (a b : Option Addr) (n m c d : Nat) (la lb : List Int) (x : Int) (w : World) (ha : Bts w a n c la) (hb : Bts w b m d lb) (htab : Tab w) (hn : n ≤ 1000000) (hm : m ≤ 1000000) :
    Calls Tryd.prog 36 #[.agg #[.slice a n c, .slice b m d], .int .i64 x] w fun e w' => e = .returned (.bool (clashB la lb x)) ∧ Below w.heap.size w w' := by
  have hk0 := cc_new ha hb htab
  clear ha hb htab
  obtain ⟨N, hN⟩ : ∃ N, N = w.heap.size := ⟨_, rfl⟩
  rw [← hN] at hk0
  have HN : Hid (N = w.heap.size) := hN
  clear hN
  by_cases he : la = lb
  · have HE : Bx (clashB la lb x = false) := ⟨by rw [he]; exact clashB_self _ _⟩
    have HQ : Bx (∀ W, CC N a b n m c d la lb w W → Calls Tryd.prog 21 #[.slice a n c, .slice b m d] W fun e w' => e = .returned (.bool true) ∧ ∃ q, w' = W.drewN q) := ⟨fun W h => by
      refine (same_any a b n m c d la lb W h.fst h.snd).mono ?_
      rintro e w' ⟨rfl, h2⟩
      exact ⟨by rw [decide_eq_true he], h2⟩⟩
    rw [HE.out]
    go_enter Tryd.func36, Tryd.ntmps36
    go_wp2_with fail
    generalize w.alloc (.cells #[.slice a n c, .slice b m d] 72) = w0 at hk0 ⊢
    have hk := hk0.drewN 1
    rw [← HN.out]
    clear hk0 he HE
    refine wp_region_held_drew (S := fun W => CC N a b n m c d la lb w W) (by kernel_rfl) hk (fun _ => ?_)
    refine wpAnyH_take (i := 0) (oi := { dst := some 5, op := Op.fieldAddr 72 (Operand.tmp 2) 0, type := 0, pos := "ref.go:13", after := #[], guard := none }) (v := ?vis01) rfl (by kernel_rfl) (by kernel_rfl) (by kernel_rfl) (fun _ _ _ h => h) (Or.inl ⟨by rfl, ?yis01⟩) hk ?ris01
    case yis01 => (intro w hSw; (try dsimp only at hSw); go_simp; first | done | with_reducible rfl)
    simp only [Act.put, List.setIfInBounds_toArray, List.set_cons_zero, List.set_cons_succ]
    refine wpAnyH_take (i := 1) (oi := { dst := some 6, op := Op.load 22 (Operand.tmp 5), type := 22, pos := "ref.go:13", after := #[{ on := 0, ground := Ground.data }], guard := none }) (v := ?vis02) rfl (by kernel_rfl) (by kernel_rfl) (by kernel_rfl) (fun _ _ _ h => h) (Or.inl ⟨by rfl, ?yis02⟩) hk ?ris02
    case yis02 => (intro w hSw; have hcw := CC.c0 hSw; clear hSw; go_simp; first | done | with_reducible rfl)
    simp only [Act.put, List.setIfInBounds_toArray, List.set_cons_zero, List.set_cons_succ]
    refine wpAnyH_take (i := 2) (oi := { dst := some 7, op := Op.fieldAddr 72 (Operand.tmp 2) 1, type := 0, pos := "ref.go:13", after := #[], guard := none }) (v := ?vis03) rfl (by kernel_rfl) (by kernel_rfl) (by kernel_rfl) (fun _ _ _ h => h) (Or.inl ⟨by rfl, ?yis03⟩) hk ?ris03
    case yis03 => (intro w hSw; (try dsimp only at hSw); go_simp; first | done | with_reducible rfl)
    simp only [Act.put, List.setIfInBounds_toArray, List.set_cons_zero, List.set_cons_succ]
    refine wpAnyH_take (i := 3) (oi := { dst := some 8, op := Op.load 22 (Operand.tmp 7), type := 22, pos := "ref.go:13", after := #[{ on := 2, ground := Ground.data }], guard := none }) (v := ?vis04) rfl (by kernel_rfl) (by kernel_rfl) (by kernel_rfl) (fun _ _ _ h => h) (Or.inl ⟨by rfl, ?yis04⟩) hk ?ris04
    case yis04 => (intro w hSw; have hcw := CC.c1 hSw; clear hSw; go_simp; first | done | with_reducible rfl)
    simp only [Act.put, List.setIfInBounds_toArray, List.set_cons_zero, List.set_cons_succ]
    refine wpAnyH_ready (rs := [4]) (by decide +kernel) (by simp) ?_
    refine AllReadyH.cons (o := { dst := some 9, op := Op.call { callee := Callee.value (Operand.func 21), args := #[Operand.tmp 6, Operand.tmp 8], argTypes := #[22, 22] }, type := 4, pos := "ref.go:13", after := #[{ on := 1, ground := Ground.data }, { on := 3, ground := Ground.data }], guard := none }) rfl (fun K hK => ?_) AllReadyH.nil
    go_simp
    refine (HQ.out _ hk).mono ?_
    rintro e1 w4 ⟨rfl, q, hq⟩
    replace hk := hk.drewN q
    rw [← hq] at hk
    clear hq
    refine hK.out _ _ hk (fun _ => ?_)
    clear hK K
    try simp only [Act.put, List.setIfInBounds_toArray, List.set_cons_zero, List.set_cons_succ]
    refine wpAnyH_take (i := 5) (oi := { dst := some 10, op := Op.unOp UnOp.not 4 (Operand.tmp 9), type := 4, pos := "ref.go:13", after := #[{ on := 4, ground := Ground.data }], guard := none }) (v := ?vis05) rfl (by kernel_rfl) (by kernel_rfl) (by kernel_rfl) (fun _ _ _ h => h) (Or.inl ⟨by rfl, ?yis05⟩) hk ?ris05
    case yis05 => (intro w hSw; (try dsimp only at hSw); go_simp; first | done | with_reducible rfl)
    simp only [Act.put, List.setIfInBounds_toArray, List.set_cons_zero, List.set_cons_succ]
    refine wpAnyH_take (i := 6) (oi := { dst := some 11, op := Op.move (Operand.tmp 10), type := 4, pos := "ref.go:13", after := #[{ on := 5, ground := Ground.data }, { on := 4, ground := Ground.chain }], guard := none }) (v := ?vis06) rfl (by kernel_rfl) (by kernel_rfl) (by kernel_rfl) (fun _ _ _ h => h) (Or.inl ⟨by rfl, ?yis06⟩) hk ?ris06
    case yis06 => (intro w hSw; (try dsimp only at hSw); go_simp; first | done | with_reducible rfl)
    simp only [Act.put, List.setIfInBounds_toArray, List.set_cons_zero, List.set_cons_succ]
    refine wpAnyH_take (i := 7) (oi := { dst := some 12, op := Op.fieldAddr 72 (Operand.tmp 2) 0, type := 0, pos := "ref.go:13", after := #[{ on := 6, ground := Ground.guard }], guard := some (6, true) }) (v := undef) rfl (by kernel_rfl) (by kernel_rfl) (by kernel_rfl) (fun _ _ _ h => h) (Or.inr ⟨by rfl, rfl⟩) hk ?_
    simp only [Act.put, List.setIfInBounds_toArray, List.set_cons_zero, List.set_cons_succ]
    refine wpAnyH_take (i := 8) (oi := { dst := some 13, op := Op.load 22 (Operand.tmp 12), type := 22, pos := "ref.go:13", after := #[{ on := 7, ground := Ground.data }, { on := 6, ground := Ground.guard }], guard := some (6, true) }) (v := undef) rfl (by kernel_rfl) (by kernel_rfl) (by kernel_rfl) (fun _ _ _ h => h) (Or.inr ⟨by rfl, rfl⟩) hk ?_
    simp only [Act.put, List.setIfInBounds_toArray, List.set_cons_zero, List.set_cons_succ]
    refine wpAnyH_take (i := 9) (oi := { dst := some 14, op := Op.call { callee := Callee.value (Operand.func 37), args := #[Operand.tmp 13], argTypes := #[22] }, type := 30, pos := "ref.go:13", after := #[{ on := 8, ground := Ground.data }, { on := 6, ground := Ground.chain }, { on := 6, ground := Ground.guard }], guard := some (6, true) }) (v := undef) rfl (by kernel_rfl) (by kernel_rfl) (by kernel_rfl) (fun _ _ _ h => h) (Or.inr ⟨by rfl, rfl⟩) hk ?_
    simp only [Act.put, List.setIfInBounds_toArray, List.set_cons_zero, List.set_cons_succ]
    refine wpAnyH_take (i := 10) (oi := { dst := some 15, op := Op.move (Operand.tmp 1), type := 3, pos := "ref.go:13", after := #[{ on := 6, ground := Ground.guard }], guard := some (6, true) }) (v := undef) rfl (by kernel_rfl) (by kernel_rfl) (by kernel_rfl) (fun _ _ _ h => h) (Or.inr ⟨by rfl, rfl⟩) hk ?_
    simp only [Act.put, List.setIfInBounds_toArray, List.set_cons_zero, List.set_cons_succ]
    refine wpAnyH_take (i := 11) (oi := { dst := some 16, op := Op.call { callee := Callee.value (Operand.func 64), args := #[Operand.tmp 14, Operand.tmp 15], argTypes := #[30, 3] }, type := 30, pos := "ref.go:13", after := #[{ on := 9, ground := Ground.data }, { on := 10, ground := Ground.data }, { on := 9, ground := Ground.chain }, { on := 6, ground := Ground.guard }], guard := some (6, true) }) (v := undef) rfl (by kernel_rfl) (by kernel_rfl) (by kernel_rfl) (fun _ _ _ h => h) (Or.inr ⟨by rfl, rfl⟩) hk ?_
    simp only [Act.put, List.setIfInBounds_toArray, List.set_cons_zero, List.set_cons_succ]
    refine wpAnyH_take (i := 12) (oi := { dst := some 17, op := Op.fieldAddr 72 (Operand.tmp 2) 1, type := 0, pos := "ref.go:13", after := #[{ on := 6, ground := Ground.guard }], guard := some (6, true) }) (v := undef) rfl (by kernel_rfl) (by kernel_rfl) (by kernel_rfl) (fun _ _ _ h => h) (Or.inr ⟨by rfl, rfl⟩) hk ?_
    simp only [Act.put, List.setIfInBounds_toArray, List.set_cons_zero, List.set_cons_succ]
    refine wpAnyH_take (i := 13) (oi := { dst := some 18, op := Op.load 22 (Operand.tmp 17), type := 22, pos := "ref.go:13", after := #[{ on := 12, ground := Ground.data }, { on := 6, ground := Ground.guard }], guard := some (6, true) }) (v := undef) rfl (by kernel_rfl) (by kernel_rfl) (by kernel_rfl) (fun _ _ _ h => h) (Or.inr ⟨by rfl, rfl⟩) hk ?_
    simp only [Act.put, List.setIfInBounds_toArray, List.set_cons_zero, List.set_cons_succ]
    refine wpAnyH_take (i := 14) (oi := { dst := some 19, op := Op.call { callee := Callee.value (Operand.func 37), args := #[Operand.tmp 18], argTypes := #[22] }, type := 30, pos := "ref.go:13", after := #[{ on := 13, ground := Ground.data }, { on := 11, ground := Ground.chain }, { on := 6, ground := Ground.guard }], guard := some (6, true) }) (v := undef) rfl (by kernel_rfl) (by kernel_rfl) (by kernel_rfl) (fun _ _ _ h => h) (Or.inr ⟨by rfl, rfl⟩) hk ?_
    simp only [Act.put, List.setIfInBounds_toArray, List.set_cons_zero, List.set_cons_succ]
    refine wpAnyH_take (i := 15) (oi := { dst := some 20, op := Op.move (Operand.tmp 1), type := 3, pos := "ref.go:13", after := #[{ on := 6, ground := Ground.guard }], guard := some (6, true) }) (v := undef) rfl (by kernel_rfl) (by kernel_rfl) (by kernel_rfl) (fun _ _ _ h => h) (Or.inr ⟨by rfl, rfl⟩) hk ?_
    simp only [Act.put, List.setIfInBounds_toArray, List.set_cons_zero, List.set_cons_succ]
    refine wpAnyH_take (i := 16) (oi := { dst := some 21, op := Op.call { callee := Callee.value (Operand.func 64), args := #[Operand.tmp 19, Operand.tmp 20], argTypes := #[30, 3] }, type := 30, pos := "ref.go:13", after := #[{ on := 14, ground := Ground.data }, { on := 15, ground := Ground.data }, { on := 14, ground := Ground.chain }, { on := 6, ground := Ground.guard }], guard := some (6, true) }) (v := undef) rfl (by kernel_rfl) (by kernel_rfl) (by kernel_rfl) (fun _ _ _ h => h) (Or.inr ⟨by rfl, rfl⟩) hk ?_
    simp only [Act.put, List.setIfInBounds_toArray, List.set_cons_zero, List.set_cons_succ]
    refine wpAnyH_take (i := 17) (oi := { dst := some 22, op := Op.binOp BinOp.eql 30 (Operand.tmp 16) (Operand.tmp 21) 30, type := 4, pos := "ref.go:13", after := #[{ on := 11, ground := Ground.data }, { on := 16, ground := Ground.data }, { on := 6, ground := Ground.guard }], guard := some (6, true) }) (v := undef) rfl (by kernel_rfl) (by kernel_rfl) (by kernel_rfl) (fun _ _ _ h => h) (Or.inr ⟨by rfl, rfl⟩) hk ?_
    simp only [Act.put, List.setIfInBounds_toArray, List.set_cons_zero, List.set_cons_succ]
    refine wpAnyH_take (i := 18) (oi := { dst := some 23, op := Op.pick (Operand.tmp 11) (Operand.tmp 22) (Operand.const (Value.bool false)), type := 4, pos := "ref.go:13", after := #[{ on := 6, ground := Ground.data }, { on := 17, ground := Ground.data }], guard := none }) (v := ?vis07) rfl (by kernel_rfl) (by kernel_rfl) (by kernel_rfl) (fun _ _ _ h => h) (Or.inl ⟨by rfl, ?yis07⟩) hk ?ris07
    case yis07 => (intro w hSw; (try dsimp only at hSw); go_simp; first | done | with_reducible rfl)
    simp only [Act.put, List.setIfInBounds_toArray, List.set_cons_zero, List.set_cons_succ]
    refine wpAnyH_take (i := 19) (oi := { dst := some 4, op := Op.assign (Operand.tmp 23), type := 4, pos := "ref.go:13", after := #[{ on := 18, ground := Ground.data }, { on := 16, ground := Ground.chain }, { on := 0, ground := Ground.phase }, { on := 1, ground := Ground.phase }, { on := 2, ground := Ground.phase }, { on := 3, ground := Ground.phase }, { on := 4, ground := Ground.phase }, { on := 5, ground := Ground.phase }, { on := 6, ground := Ground.phase }, { on := 7, ground := Ground.phase }, { on := 8, ground := Ground.phase }, { on := 9, ground := Ground.phase }, { on := 10, ground := Ground.phase }, { on := 11, ground := Ground.phase }, { on := 12, ground := Ground.phase }, { on := 13, ground := Ground.phase }, { on := 14, ground := Ground.phase }, { on := 15, ground := Ground.phase }, { on := 16, ground := Ground.phase }, { on := 17, ground := Ground.phase }, { on := 18, ground := Ground.phase }], guard := none }) (v := ?vis08) rfl (by kernel_rfl) (by kernel_rfl) (by kernel_rfl) (fun _ _ _ h => h) (Or.inl ⟨by rfl, ?yis08⟩) hk ?ris08
    case yis08 => (intro w hSw; (try dsimp only at hSw); go_simp; first | done | with_reducible rfl)
    simp only [Act.put, List.setIfInBounds_toArray, List.set_cons_zero, List.set_cons_succ]
    refine wpAnyH_done (by decide +kernel) ?_ _
    have hlow : Below w.heap.size w w4 := by rw [← HN.out]; exact hk.low
    clear hk HQ
    go_wp2
    go_ret
    exact ⟨rfl, hlow⟩
  · have HE : Bx (decide (cutL (sumL la) x = cutL (sumL lb) x) = clashB la lb x) := ⟨by unfold clashB; rw [decide_eq_false he]; rfl⟩
    have HQ : Bx (∀ W, CC N a b n m c d la lb w W → Calls Tryd.prog 21 #[.slice a n c, .slice b m d] W fun e w' => e = .returned (.bool false) ∧ ∃ q, w' = W.drewN q) := ⟨fun W h => by
      refine (same_any a b n m c d la lb W h.fst h.snd).mono ?_
      rintro e w' ⟨rfl, h2⟩
      exact ⟨by rw [decide_eq_false he], h2⟩⟩
    have HS1 : Bx (∀ W, CC N a b n m c d la lb w W → Calls Tryd.prog 37 #[.slice a n c] W fun e w' => e = .returned (.agg (bv (sumL la)).toArray) ∧ Below W.heap.size W w') := ⟨fun W h => refsum_any a n c la W h.fst  (by omega)⟩
    have HS2 : Bx (∀ W, CC N a b n m c d la lb w W → Calls Tryd.prog 37 #[.slice b m d] W fun e w' => e = .returned (.agg (bv (sumL lb)).toArray) ∧ Below W.heap.size W w') := ⟨fun W h => refsum_any b m d lb W h.snd  (by omega)⟩
    have HC1 : Bx (∀ W, Calls Tryd.prog 64 #[.agg (bv (sumL la)).toArray, .int .i64 x] W fun e w' => e = .returned (.agg (bv (cutL (sumL la) x)).toArray) ∧ Below W.heap.size W w') := ⟨fun W => refmcut_any (sumL la) x W ⟨sumL_length _, sum_byt _⟩⟩
    have HC2 : Bx (∀ W, Calls Tryd.prog 64 #[.agg (bv (sumL lb)).toArray, .int .i64 x] W fun e w' => e = .returned (.agg (bv (cutL (sumL lb) x)).toArray) ∧ Below W.heap.size W w') := ⟨fun W => refmcut_any (sumL lb) x W ⟨sumL_length _, sum_byt _⟩⟩
    have hcmp := dig_cmp (cutL (sumL la) x) (cutL (sumL lb) x) (cutL_dg (sum_byt _) x).1 (cutL_dg (sum_byt _) x).1
    generalize decide (cutL (sumL la) x = cutL (sumL lb) x) = r at HE hcmp
    generalize cutL (sumL la) x = ca at HC1 hcmp
    generalize cutL (sumL lb) x = cb at HC2 hcmp
    generalize sumL la = sa at HS1 HC1
    generalize sumL lb = sc at HS2 HC2
    rw [← HE.out]
    go_enter Tryd.func36, Tryd.ntmps36
    go_wp2_with fail
    generalize w.alloc (.cells #[.slice a n c, .slice b m d] 72) = w0 at hk0 ⊢
    have hk := hk0.drewN 1
    rw [← HN.out]
    clear hk0 he HE
    refine wp_region_held_drew (S := fun W => CC N a b n m c d la lb w W) (by kernel_rfl) hk (fun _ => ?_)
    refine wpAnyH_take (i := 0) (oi := { dst := some 5, op := Op.fieldAddr 72 (Operand.tmp 2) 0, type := 0, pos := "ref.go:13", after := #[], guard := none }) (v := ?vis11) rfl (by kernel_rfl) (by kernel_rfl) (by kernel_rfl) (fun _ _ _ h => h) (Or.inl ⟨by rfl, ?yis11⟩) hk ?ris11
    case yis11 => (intro w hSw; (try dsimp only at hSw); go_simp; first | done | with_reducible rfl)
    simp only [Act.put, List.setIfInBounds_toArray, List.set_cons_zero, List.set_cons_succ]
    refine wpAnyH_take (i := 1) (oi := { dst := some 6, op := Op.load 22 (Operand.tmp 5), type := 22, pos := "ref.go:13", after := #[{ on := 0, ground := Ground.data }], guard := none }) (v := ?vis12) rfl (by kernel_rfl) (by kernel_rfl) (by kernel_rfl) (fun _ _ _ h => h) (Or.inl ⟨by rfl, ?yis12⟩) hk ?ris12
    case yis12 => (intro w hSw; have hcw := CC.c0 hSw; clear hSw; go_simp; first | done | with_reducible rfl)
    simp only [Act.put, List.setIfInBounds_toArray, List.set_cons_zero, List.set_cons_succ]
    refine wpAnyH_take (i := 2) (oi := { dst := some 7, op := Op.fieldAddr 72 (Operand.tmp 2) 1, type := 0, pos := "ref.go:13", after := #[], guard := none }) (v := ?vis13) rfl (by kernel_rfl) (by kernel_rfl) (by kernel_rfl) (fun _ _ _ h => h) (Or.inl ⟨by rfl, ?yis13⟩) hk ?ris13
    case yis13 => (intro w hSw; (try dsimp only at hSw); go_simp; first | done | with_reducible rfl)
    simp only [Act.put, List.setIfInBounds_toArray, List.set_cons_zero, List.set_cons_succ]
    refine wpAnyH_take (i := 3) (oi := { dst := some 8, op := Op.load 22 (Operand.tmp 7), type := 22, pos := "ref.go:13", after := #[{ on := 2, ground := Ground.data }], guard := none }) (v := ?vis14) rfl (by kernel_rfl) (by kernel_rfl) (by kernel_rfl) (fun _ _ _ h => h) (Or.inl ⟨by rfl, ?yis14⟩) hk ?ris14
    case yis14 => (intro w hSw; have hcw := CC.c1 hSw; clear hSw; go_simp; first | done | with_reducible rfl)
    simp only [Act.put, List.setIfInBounds_toArray, List.set_cons_zero, List.set_cons_succ]
    refine wpAnyH_ready (rs := [4]) (by decide +kernel) (by simp) ?_
    refine AllReadyH.cons (o := { dst := some 9, op := Op.call { callee := Callee.value (Operand.func 21), args := #[Operand.tmp 6, Operand.tmp 8], argTypes := #[22, 22] }, type := 4, pos := "ref.go:13", after := #[{ on := 1, ground := Ground.data }, { on := 3, ground := Ground.data }], guard := none }) rfl (fun K hK => ?_) AllReadyH.nil
    go_simp
    refine (HQ.out _ hk).mono ?_
    rintro e1 w4 ⟨rfl, q, hq⟩
    replace hk := hk.drewN q
    rw [← hq] at hk
    clear hq
    refine hK.out _ _ hk (fun _ => ?_)
    clear hK K
    try simp only [Act.put, List.setIfInBounds_toArray, List.set_cons_zero, List.set_cons_succ]
    refine wpAnyH_take (i := 5) (oi := { dst := some 10, op := Op.unOp UnOp.not 4 (Operand.tmp 9), type := 4, pos := "ref.go:13", after := #[{ on := 4, ground := Ground.data }], guard := none }) (v := ?vis15) rfl (by kernel_rfl) (by kernel_rfl) (by kernel_rfl) (fun _ _ _ h => h) (Or.inl ⟨by rfl, ?yis15⟩) hk ?ris15
    case yis15 => (intro w hSw; (try dsimp only at hSw); go_simp; first | done | with_reducible rfl)
    simp only [Act.put, List.setIfInBounds_toArray, List.set_cons_zero, List.set_cons_succ]
    refine wpAnyH_take (i := 6) (oi := { dst := some 11, op := Op.move (Operand.tmp 10), type := 4, pos := "ref.go:13", after := #[{ on := 5, ground := Ground.data }, { on := 4, ground := Ground.chain }], guard := none }) (v := ?vis16) rfl (by kernel_rfl) (by kernel_rfl) (by kernel_rfl) (fun _ _ _ h => h) (Or.inl ⟨by rfl, ?yis16⟩) hk ?ris16
    case yis16 => (intro w hSw; (try dsimp only at hSw); go_simp; first | done | with_reducible rfl)
    simp only [Act.put, List.setIfInBounds_toArray, List.set_cons_zero, List.set_cons_succ]
    refine wpAnyH_take (i := 7) (oi := { dst := some 12, op := Op.fieldAddr 72 (Operand.tmp 2) 0, type := 0, pos := "ref.go:13", after := #[{ on := 6, ground := Ground.guard }], guard := some (6, true) }) (v := ?vis17) rfl (by kernel_rfl) (by kernel_rfl) (by kernel_rfl) (fun _ _ _ h => h) (Or.inl ⟨by rfl, ?yis17⟩) hk ?ris17
    case yis17 => (intro w hSw; (try dsimp only at hSw); go_simp; first | done | with_reducible rfl)
    simp only [Act.put, List.setIfInBounds_toArray, List.set_cons_zero, List.set_cons_succ]
    refine wpAnyH_take (i := 8) (oi := { dst := some 13, op := Op.load 22 (Operand.tmp 12), type := 22, pos := "ref.go:13", after := #[{ on := 7, ground := Ground.data }, { on := 6, ground := Ground.guard }], guard := some (6, true) }) (v := ?vis18) rfl (by kernel_rfl) (by kernel_rfl) (by kernel_rfl) (fun _ _ _ h => h) (Or.inl ⟨by rfl, ?yis18⟩) hk ?ris18
    case yis18 => (intro w hSw; have hcw := CC.c0 hSw; clear hSw; go_simp; first | done | with_reducible rfl)
    simp only [Act.put, List.setIfInBounds_toArray, List.set_cons_zero, List.set_cons_succ]
    refine wpAnyH_take (i := 10) (oi := { dst := some 15, op := Op.move (Operand.tmp 1), type := 3, pos := "ref.go:13", after := #[{ on := 6, ground := Ground.guard }], guard := some (6, true) }) (v := ?vis19) rfl (by kernel_rfl) (by kernel_rfl) (by kernel_rfl) (fun _ _ _ h => h) (Or.inl ⟨by rfl, ?yis19⟩) hk ?ris19
    case yis19 => (intro w hSw; (try dsimp only at hSw); go_simp; first | done | with_reducible rfl)
    simp only [Act.put, List.setIfInBounds_toArray, List.set_cons_zero, List.set_cons_succ]
    refine wpAnyH_take (i := 12) (oi := { dst := some 17, op := Op.fieldAddr 72 (Operand.tmp 2) 1, type := 0, pos := "ref.go:13", after := #[{ on := 6, ground := Ground.guard }], guard := some (6, true) }) (v := ?vis110) rfl (by kernel_rfl) (by kernel_rfl) (by kernel_rfl) (fun _ _ _ h => h) (Or.inl ⟨by rfl, ?yis110⟩) hk ?ris110
    case yis110 => (intro w hSw; (try dsimp only at hSw); go_simp; first | done | with_reducible rfl)
    simp only [Act.put, List.setIfInBounds_toArray, List.set_cons_zero, List.set_cons_succ]
    refine wpAnyH_take (i := 13) (oi := { dst := some 18, op := Op.load 22 (Operand.tmp 17), type := 22, pos := "ref.go:13", after := #[{ on := 12, ground := Ground.data }, { on := 6, ground := Ground.guard }], guard := some (6, true) }) (v := ?vis111) rfl (by kernel_rfl) (by kernel_rfl) (by kernel_rfl) (fun _ _ _ h => h) (Or.inl ⟨by rfl, ?yis111⟩) hk ?ris111
    case yis111 => (intro w hSw; have hcw := CC.c1 hSw; clear hSw; go_simp; first | done | with_reducible rfl)
    simp only [Act.put, List.setIfInBounds_toArray, List.set_cons_zero, List.set_cons_succ]
    refine wpAnyH_take (i := 15) (oi := { dst := some 20, op := Op.move (Operand.tmp 1), type := 3, pos := "ref.go:13", after := #[{ on := 6, ground := Ground.guard }], guard := some (6, true) }) (v := ?vis112) rfl (by kernel_rfl) (by kernel_rfl) (by kernel_rfl) (fun _ _ _ h => h) (Or.inl ⟨by rfl, ?yis112⟩) hk ?ris112
    case yis112 => (intro w hSw; (try dsimp only at hSw); go_simp; first | done | with_reducible rfl)
    simp only [Act.put, List.setIfInBounds_toArray, List.set_cons_zero, List.set_cons_succ]
    refine wpAnyH_ready (rs := [9]) (by decide +kernel) (by simp) ?_
    refine AllReadyH.cons (o := { dst := some 14, op := Op.call { callee := Callee.value (Operand.func 37), args := #[Operand.tmp 13], argTypes := #[22] }, type := 30, pos := "ref.go:13", after := #[{ on := 8, ground := Ground.data }, { on := 6, ground := Ground.chain }, { on := 6, ground := Ground.guard }], guard := some (6, true) }) rfl (fun K hK => ?_) AllReadyH.nil
    go_simp
    refine (HS1.out _ hk).mono ?_
    rintro e1 w9 ⟨rfl, hb1⟩
    replace hk := hk.step hb1
    clear hb1
    refine hK.out _ _ hk (fun _ => ?_)
    clear hK K
    try simp only [Act.put, List.setIfInBounds_toArray, List.set_cons_zero, List.set_cons_succ]
    refine wpAnyH_ready (rs := [11]) (by decide +kernel) (by simp) ?_
    refine AllReadyH.cons (o := { dst := some 16, op := Op.call { callee := Callee.value (Operand.func 64), args := #[Operand.tmp 14, Operand.tmp 15], argTypes := #[30, 3] }, type := 30, pos := "ref.go:13", after := #[{ on := 9, ground := Ground.data }, { on := 10, ground := Ground.data }, { on := 9, ground := Ground.chain }, { on := 6, ground := Ground.guard }], guard := some (6, true) }) rfl (fun K hK => ?_) AllReadyH.nil
    go_simp
    refine (HC1.out _).mono ?_
    rintro e1 w11 ⟨rfl, hb1⟩
    replace hk := hk.step hb1
    clear hb1
    refine hK.out _ _ hk (fun _ => ?_)
    clear hK K
    try simp only [Act.put, List.setIfInBounds_toArray, List.set_cons_zero, List.set_cons_succ]
    refine wpAnyH_ready (rs := [14]) (by decide +kernel) (by simp) ?_
    refine AllReadyH.cons (o := { dst := some 19, op := Op.call { callee := Callee.value (Operand.func 37), args := #[Operand.tmp 18], argTypes := #[22] }, type := 30, pos := "ref.go:13", after := #[{ on := 13, ground := Ground.data }, { on := 11, ground := Ground.chain }, { on := 6, ground := Ground.guard }], guard := some (6, true) }) rfl (fun K hK => ?_) AllReadyH.nil
    go_simp
    refine (HS2.out _ hk).mono ?_
    rintro e1 w14 ⟨rfl, hb1⟩
    replace hk := hk.step hb1
    clear hb1
    refine hK.out _ _ hk (fun _ => ?_)
    clear hK K
    try simp only [Act.put, List.setIfInBounds_toArray, List.set_cons_zero, List.set_cons_succ]
    refine wpAnyH_ready (rs := [16]) (by decide +kernel) (by simp) ?_
    refine AllReadyH.cons (o := { dst := some 21, op := Op.call { callee := Callee.value (Operand.func 64), args := #[Operand.tmp 19, Operand.tmp 20], argTypes := #[30, 3] }, type := 30, pos := "ref.go:13", after := #[{ on := 14, ground := Ground.data }, { on := 15, ground := Ground.data }, { on := 14, ground := Ground.chain }, { on := 6, ground := Ground.guard }], guard := some (6, true) }) rfl (fun K hK => ?_) AllReadyH.nil
    go_simp
    refine (HC2.out _).mono ?_
    rintro e1 w16 ⟨rfl, hb1⟩
    replace hk := hk.step hb1
    clear hb1
    refine hK.out _ _ hk (fun _ => ?_)
    clear hK K
    try simp only [Act.put, List.setIfInBounds_toArray, List.set_cons_zero, List.set_cons_succ]
    refine wpAnyH_take (i := 17) (oi := { dst := some 22, op := Op.binOp BinOp.eql 30 (Operand.tmp 16) (Operand.tmp 21) 30, type := 4, pos := "ref.go:13", after := #[{ on := 11, ground := Ground.data }, { on := 16, ground := Ground.data }, { on := 6, ground := Ground.guard }], guard := some (6, true) }) (v := ?vis113) rfl (by kernel_rfl) (by kernel_rfl) (by kernel_rfl) (fun _ _ _ h => h) (Or.inl ⟨by rfl, ?yis113⟩) hk ?ris113
    case yis113 => (intro w hSw; (try dsimp only at hSw); go_simp; first | done | with_reducible rfl)
    simp only [Act.put, List.setIfInBounds_toArray, List.set_cons_zero, List.set_cons_succ]
    refine wpAnyH_take (i := 18) (oi := { dst := some 23, op := Op.pick (Operand.tmp 11) (Operand.tmp 22) (Operand.const (Value.bool false)), type := 4, pos := "ref.go:13", after := #[{ on := 6, ground := Ground.data }, { on := 17, ground := Ground.data }], guard := none }) (v := ?vis114) rfl (by kernel_rfl) (by kernel_rfl) (by kernel_rfl) (fun _ _ _ h => h) (Or.inl ⟨by rfl, ?yis114⟩) hk ?ris114
    case yis114 => (intro w hSw; (try dsimp only at hSw); go_simp; first | done | with_reducible rfl)
    simp only [Act.put, List.setIfInBounds_toArray, List.set_cons_zero, List.set_cons_succ]
    refine wpAnyH_take (i := 19) (oi := { dst := some 4, op := Op.assign (Operand.tmp 23), type := 4, pos := "ref.go:13", after := #[{ on := 18, ground := Ground.data }, { on := 16, ground := Ground.chain }, { on := 0, ground := Ground.phase }, { on := 1, ground := Ground.phase }, { on := 2, ground := Ground.phase }, { on := 3, ground := Ground.phase }, { on := 4, ground := Ground.phase }, { on := 5, ground := Ground.phase }, { on := 6, ground := Ground.phase }, { on := 7, ground := Ground.phase }, { on := 8, ground := Ground.phase }, { on := 9, ground := Ground.phase }, { on := 10, ground := Ground.phase }, { on := 11, ground := Ground.phase }, { on := 12, ground := Ground.phase }, { on := 13, ground := Ground.phase }, { on := 14, ground := Ground.phase }, { on := 15, ground := Ground.phase }, { on := 16, ground := Ground.phase }, { on := 17, ground := Ground.phase }, { on := 18, ground := Ground.phase }], guard := none }) (v := ?vis115) rfl (by kernel_rfl) (by kernel_rfl) (by kernel_rfl) (fun _ _ _ h => h) (Or.inl ⟨by rfl, ?yis115⟩) hk ?ris115
    case yis115 => (intro w hSw; (try dsimp only at hSw); go_simp; first | done | with_reducible rfl)
    simp only [Act.put, List.setIfInBounds_toArray, List.set_cons_zero, List.set_cons_succ]
    refine wpAnyH_done (by decide +kernel) ?_ _
    have hlow : Below w.heap.size w w16 := by rw [← HN.out]; exact hk.low
    clear hk HQ hcmp
    go_wp2
    go_ret
    exact ⟨rfl, hlow⟩
end Go.Proofs.YtbednfacipphhaaDoor
