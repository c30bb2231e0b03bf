/- An ask, none of whose parts is too long, in memory of its own. -/
import Derived.Test.YtpfijaojgeceeaaGreatDoorAuak
import Derived.Test.YtpfijaojgeceeaaGreatDoorAuar
import Derived.Test.YtpfijaojgeceeaaGreatDoorCut
import Derived.Test.YtpfijaojgeceeaaGreatDoorAuao
import Derived.Test.YtpfijaojgeceeaaGreatDoorTBase
import Derived.Laws.Rows
import Derived.Deep.CutRange
import Derived.Deep.RegionHeld3
namespace Go.Proofs.YtpfijaojgeceeaaGreatDoor
open Go.RowKit
set_option linter.unusedVariables false

/-- a text's beginning -/
def ctT (s : ByteArray) (n : Nat) : ByteArray := if n < s.size then s.extract 0 n else s
set_option maxRecDepth 100000 in
theorem ctT_size (s : ByteArray) (n : Nat) : (ctT s n).size ≤ n := by
  unfold ctT
  split
  · rw [Lib.size_eq, Lib.extract_data, List.length_take]; omega
  · omega
set_option maxRecDepth 100000 in
theorem ctT_id {s : ByteArray} {n : Nat} (h : s.size ≤ n) : ctT s n = s := by unfold ctT; rw [if_neg (by omega)]
set_option maxRecDepth 100000 in
theorem scutT (s : ByteArray) (n : Nat) (w : World) (hs : s.size ≤ 9223372036854775807) :
    Calls Tryz.prog 5 #[.string s, .int .i64 n] w fun e w' => e = .returned (.string (ctT s n)) ∧ w' = w := by
  by_cases h : n < s.size
  · have hi : (n : Int) < (s.size : Int) := by omega
    have hi2 : (n : Int) ≤ (s.size : Int) := by omega
    have HZ : Bx (ctT s n = s.extract 0 n) := ⟨by unfold ctT; rw [if_pos h]⟩
    clear h
    go_enter Tryz.func5, Tryz.ntmps5
    go_wp2
    go_ret
    exact ⟨by rw [HZ.out]; rfl, rfl⟩
  · have hi : ¬ (n : Int) < (s.size : Int) := by omega
    have HZ : Bx (ctT s n = s) := ⟨by unfold ctT; rw [if_neg h]⟩
    clear h
    go_enter Tryz.func5, Tryz.ntmps5
    go_wp2
    go_ret
    exact ⟨by rw [HZ.out]; rfl, rfl⟩
/-- what is asked, cut -/
def ctA (a : As) : As := ⟨a.k, ctT a.nm 30, ctT a.sp 30, a.b.take 4200, a.A, a.B⟩
set_option maxRecDepth 100000 in
theorem ctA_id {a : As} (h1 : a.nm.size ≤ 30) (h2 : a.sp.size ≤ 30) (h3 : a.b.length ≤ 4200) : ctA a = a := by
  obtain ⟨k, nm, sp, b, A, B⟩ := a
  unfold ctA
  rw [ctT_id h1, ctT_id h2, List.take_of_length_le h3]
abbrev askZ : Array Value := #[.int .i64 0, .string ⟨#[]⟩, .string ⟨#[]⟩, .slice none 0 0, .int .i64 0, .int .i64 0]
set_option maxRecDepth 100000 in
theorem ask_info22 : (Tryz.prog.info? 24).map (·.size) = some 6 := by kernel_rfl
set_option maxRecDepth 100000 in
theorem ask_one22 (a : As) (ab : Option Addr) (n c : Nat) : (askV a ab n c).all (·.oneCell') = true := by simp [Value.oneCell']
set_option maxRecDepth 100000 in
/-- two texts are written -/
theorem two_setA {w wk : World} {k A B : Int} {m t : ByteArray} {v : Value} (hr : wk.heap[w.heap.size]? = some (.cells #[.int .i64 k, .string m, .string t, v, .int .i64 A, .int .i64 B] 24 (0, 0))) (hb : Below w.heap.size w wk) (m2 t2 : ByteArray) :
    ((wk.setCell ⟨w.heap.size, 1, none⟩ (.string m2)).cell? ⟨w.heap.size, 2, none⟩ = some (.string t) ∧ (wk.setCell ⟨w.heap.size, 1, none⟩ (.string m2)).frozen? ⟨w.heap.size, 2, none⟩ = false) ∧
    ((wk.setCell ⟨w.heap.size, 1, none⟩ (.string m2)).setCell ⟨w.heap.size, 2, none⟩ (.string t2)).heap[w.heap.size]? = some (.cells #[.int .i64 k, .string m2, .string t2, v, .int .i64 A, .int .i64 B] 24 (0, 0)) ∧
    Below w.heap.size w ((wk.setCell ⟨w.heap.size, 1, none⟩ (.string m2)).setCell ⟨w.heap.size, 2, none⟩ (.string t2)) ∧ ∀ j, j ≠ w.heap.size → ((wk.setCell ⟨w.heap.size, 1, none⟩ (.string m2)).setCell ⟨w.heap.size, 2, none⟩ (.string t2)).heap[j]? = wk.heap[j]? := by
  have h1 := heap_setCell_same wk w.heap.size 1 _ _ (.string m2) hr
  have h2 := heap_setCell_same _ w.heap.size 2 _ _ (.string t2) h1
  refine ⟨⟨by rw [cell_of_row _ _ 2 _ _ (0, 0) h1]; rfl, frozen_of_row _ _ 2 _ _ h1⟩, h2, ?_, fun j hj => ?_⟩
  · exact below_setCells (vs := [.string t2]) (o := 2) (below_setCells (vs := [.string m2]) (o := 1) hb _ (Nat.le_refl _)) _ (Nat.le_refl _)
  · exact (setCells_other (vs := [.string t2]) (o := 2) hj).trans (setCells_other (vs := [.string m2]) (o := 1) hj)
set_option maxRecDepth 100000 in
set_option maxHeartbeats 4000000 in
set_option maxRecDepth 100000 in
theorem acut_any (x : As) (ab : Option Addr) (n c : Nat) (w : World) (hx : AskI w x ab n c) :
    Calls Tryz.prog 4 #[.agg (askV x ab n c)] w fun e w' => ∃ a' m' c', e = .returned (.agg (askV (ctA x) a' m' c')) ∧ Bts w' a' m' c' (ctA x).b ∧ (∀ p, a' = some p → w.heap.size ≤ p.block) ∧ m' ≤ 4200 ∧ Below w.heap.size w w' := by
  have hb := hx.b
  have hB1 : Below w.heap.size w ((w.alloc (.cells #[.int .i64 x.k, .string x.nm, .string x.sp, .slice ab n c, .int .i64 x.A, .int .i64 x.B] 24)).alloc (.cells askZ 24)) := ((Below.refl _ _).alloc (Nat.le_refl _) _).alloc (by simp) _
  have C1 : Hid (∀ W, Calls Tryz.prog 5 #[.string x.nm, .int .i64 30] W fun e w' => e = .returned (.string (ctA x).nm) ∧ W = w') := fun W => (scutT x.nm 30 W (by have := hx.nm; unfold maxLen at this; omega)).mono fun e w' h => ⟨h.1, h.2.symm⟩
  have C2 : Hid (∀ W, Calls Tryz.prog 5 #[.string x.sp, .int .i64 30] W fun e w' => e = .returned (.string (ctA x).sp) ∧ W = w') := fun W => (scutT x.sp 30 W (by have := hx.sp; unfold maxLen at this; omega)).mono fun e w' h => ⟨h.1, h.2.symm⟩
  have HXB : Bx ((ctA x).b = x.b.take 4200 ∧ (ctA x).k = x.k ∧ (ctA x).A = x.A ∧ (ctA x).B = x.B) := ⟨⟨rfl, rfl, rfl, rfl⟩⟩
  obtain ⟨hROW, hRZ, _⟩ := two_new18 w (.cells #[.int .i64 x.k, .string x.nm, .string x.sp, .slice ab n c, .int .i64 x.A, .int .i64 x.B] 24) (.cells askZ 24)
  have HROW := Bx.mk hROW
  have HRZ := Bx.mk hRZ
  have HB := Bx.mk hb
  have HB1 := Bx.mk hB1
  have HBK : Bx True := ⟨trivial⟩
  show Calls Tryz.prog 4 #[.agg #[.int .i64 x.k, .string x.nm, .string x.sp, .slice ab n c, .int .i64 x.A, .int .i64 x.B]] w fun e w' => ∃ a' m' c', e = .returned (.agg #[.int .i64 x.k, .string (ctA x).nm, .string (ctA x).sp, .slice a' m' c', .int .i64 x.A, .int .i64 x.B]) ∧ Bts w' a' m' c' (ctA x).b ∧ (∀ p, a' = some p → w.heap.size ≤ p.block) ∧ m' ≤ 4200 ∧ Below w.heap.size w w'
  generalize (ctA x).nm = m2 at *
  generalize (ctA x).sp = t2 at *
  generalize (ctA x).b = b2 at *
  generalize x.nm = xm at *
  generalize x.sp = xt at *
  generalize x.k = xk at *
  generalize x.A = xA at *
  generalize x.B = xB at *
  clear hx hb hB1 hROW hRZ
  generalize hw1 : (w.alloc (.cells #[.int .i64 xk, .string xm, .string xt, .slice ab n c, .int .i64 xA, .int .i64 xB] 24)).alloc (.cells askZ 24) = W1 at *
  unfold askZ at hw1
  go_enter Tryz.func4, Tryz.ntmps4
  go_upto_region 1 with fail
  clear hw1
  go_cut [] from 3 to 10 (fun wx => wx.heap[w.heap.size]? = some (.cells #[.int .i64 xk, .string m2, .string t2, .slice ab n c, .int .i64 xA, .int .i64 xB] 24 (0, 0)) ∧ Below w.heap.size w wx ∧ wx.heap[w.heap.size + 1]? = some (.cells askZ 24 (0, 0)))
  case first =>
    refine wp_region_held_drew (S := fun _ => True) (by kernel_rfl) trivial (fun _ => ?_)
    generalize hwd : W1.drew = wk at *
    replace HBK : Bx (Below w.heap.size w wk) := ⟨by rw [← hwd]; exact HB1.out.drew⟩
    have hr0 : wk.heap[w.heap.size]? = some (.cells #[.int .i64 xk, .string xm, .string xt, .slice ab n c, .int .i64 xA, .int .i64 xB] 24 (0, 0)) := by rw [← hwd]; exact HROW.out
    have hz0 : wk.heap[w.heap.size + 1]? = some (.cells askZ 24 (0, 0)) := by rw [← hwd]; exact HRZ.out
    clear hwd
    have c1 : wk.cell? ⟨w.heap.size, 1, none⟩ = some (.string xm) := by rw [cell_of_row wk w.heap.size 1 _ _ (0, 0) hr0]; rfl
    have c2 : wk.cell? ⟨w.heap.size, 2, none⟩ = some (.string xt) := by rw [cell_of_row wk w.heap.size 2 _ _ (0, 0) hr0]; rfl
    have f1 : wk.frozen? ⟨w.heap.size, 1, none⟩ = false := frozen_of_row _ _ 1 _ _ hr0
    obtain ⟨q1, q3, q4, q5⟩ := two_setA hr0 HBK.out m2 t2
    clear hr0
    refine wpAnyH_take (i := 0) (oi := { dst := some 3, op := Op.fieldAddr 24 (Operand.tmp 1) 1, type := 0, pos := "ref.go:280", after := #[], guard := none }) (v := ?vact11) rfl (by kernel_rfl) (by kernel_rfl) (by kernel_rfl) (fun _ _ _ h => h) (Or.inl ⟨by rfl, ?yact11⟩) trivial ?ract11
    case yact11 => (intro w hSw; (try dsimp only at hSw); go_simp; first | done | with_reducible rfl)
    simp only [Act.put, List.setIfInBounds_toArray, List.set_cons_zero, List.set_cons_succ]
    refine wpAnyH_take (i := 3) (oi := { dst := some 6, op := Op.fieldAddr 24 (Operand.tmp 1) 2, type := 0, pos := "ref.go:280", after := #[], guard := none }) (v := ?vact12) rfl (by kernel_rfl) (by kernel_rfl) (by kernel_rfl) (fun _ _ _ h => h) (Or.inl ⟨by rfl, ?yact12⟩) trivial ?ract12
    case yact12 => (intro w hSw; (try dsimp only at hSw); go_simp; first | done | with_reducible rfl)
    simp only [Act.put, List.setIfInBounds_toArray, List.set_cons_zero, List.set_cons_succ]
    refine wpAnyH_ready (rs := [1, 4]) (by decide +kernel) (by simp) ?_
    refine (AllReadyH.cons (o := { dst := some 4, op := Op.load 9 (Operand.tmp 3), type := 9, pos := "ref.go:280", after := #[{ on := 0, ground := Ground.data }], guard := none }) rfl (fun K hK => ?_) (AllReadyH.cons (o := { dst := some 7, op := Op.load 9 (Operand.tmp 6), type := 9, pos := "ref.go:280", after := #[{ on := 3, ground := Ground.data }], guard := none }) rfl (fun K hK => ?_) AllReadyH.nil))
    · rw [if_pos (by rfl)]
      go_simp
      refine hK.out _ _ trivial (fun _ => ?_)
      clear hK K
      try simp only [Act.put, List.setIfInBounds_toArray, List.set_cons_zero, List.set_cons_succ]
      refine wpAnyH_ready (rs := [2, 4]) (by decide +kernel) (by simp) ?_
      refine (AllReadyH.cons (o := { dst := some 5, op := Op.call { callee := Callee.value (Operand.func 5), args := #[Operand.tmp 4, Operand.const (Value.int IntKind.i64 30)], argTypes := #[9, 3] }, type := 9, pos := "ref.go:280", after := #[{ on := 1, ground := Ground.data }], guard := none }) rfl (fun K hK => ?_) (AllReadyH.cons (o := { dst := some 7, op := Op.load 9 (Operand.tmp 6), type := 9, pos := "ref.go:280", after := #[{ on := 3, ground := Ground.data }], guard := none }) rfl (fun K hK => ?_) AllReadyH.nil))
      · go_simp
        refine (C1.out _).mono ?_
        rintro e1 w9 ⟨rfl, rfl⟩
        refine hK.out _ _ trivial (fun _ => ?_)
        clear hK K
        try simp only [Act.put, List.setIfInBounds_toArray, List.set_cons_zero, List.set_cons_succ]
        refine wpAnyH_ready (rs := [4]) (by decide +kernel) (by simp) ?_
        refine AllReadyH.cons (o := { dst := some 7, op := Op.load 9 (Operand.tmp 6), type := 9, pos := "ref.go:280", after := #[{ on := 3, ground := Ground.data }], guard := none }) rfl (fun K hK => ?_) AllReadyH.nil
        rw [if_pos (by rfl)]
        go_simp
        refine hK.out _ _ trivial (fun _ => ?_)
        clear hK K
        try simp only [Act.put, List.setIfInBounds_toArray, List.set_cons_zero, List.set_cons_succ]
        refine wpAnyH_take (i := 6) (oi := { dst := some 9, op := Op.fieldAddr 24 (Operand.tmp 1) 1, type := 0, pos := "ref.go:280", after := #[{ on := 0, ground := Ground.phase }, { on := 1, ground := Ground.phase }, { on := 2, ground := Ground.phase }, { on := 3, ground := Ground.phase }, { on := 4, ground := Ground.phase }, { on := 5, ground := Ground.textOnly Departure.lateStoresUnsure }], guard := none }) (v := ?vact15) rfl (by kernel_rfl) (by kernel_rfl) (by kernel_rfl) (fun _ _ _ h => h) (Or.inl ⟨by rfl, ?yact15⟩) trivial ?ract15
        case yact15 => (intro w hSw; (try dsimp only at hSw); go_simp; first | done | with_reducible rfl)
        simp only [Act.put, List.setIfInBounds_toArray, List.set_cons_zero, List.set_cons_succ]
        refine wpAnyH_ready (rs := [5]) (by decide +kernel) (by simp) ?_
        refine AllReadyH.cons (o := { dst := some 8, op := Op.call { callee := Callee.value (Operand.func 5), args := #[Operand.tmp 7, Operand.const (Value.int IntKind.i64 30)], argTypes := #[9, 3] }, type := 9, pos := "ref.go:280", after := #[{ on := 4, ground := Ground.data }, { on := 2, ground := Ground.chain }], guard := none }) rfl (fun K hK => ?_) AllReadyH.nil
        go_simp
        refine (C2.out _).mono ?_
        rintro e1 w9 ⟨rfl, rfl⟩
        refine hK.out _ _ trivial (fun _ => ?_)
        clear hK K
        try simp only [Act.put, List.setIfInBounds_toArray, List.set_cons_zero, List.set_cons_succ]
        refine wpAnyH_ready (rs := [7]) (by decide +kernel) (by simp) ?_
        refine AllReadyH.cons (o := { dst := none, op := Op.store 9 (Operand.tmp 9) (Operand.tmp 5), type := 0, pos := "ref.go:280", after := #[{ on := 6, ground := Ground.data }, { on := 2, ground := Ground.data }, { on := 5, ground := Ground.chain }, { on := 0, ground := Ground.phase }, { on := 1, ground := Ground.phase }, { on := 2, ground := Ground.phase }, { on := 3, ground := Ground.phase }, { on := 4, ground := Ground.phase }, { on := 5, ground := Ground.textOnly Departure.lateStoresUnsure }], guard := none }) rfl (fun K hK => ?_) AllReadyH.nil
        rw [if_pos (by rfl)]
        go_simp
        refine hK.out _ _ trivial (fun _ => ?_)
        clear hK K
        try simp only [Act.put, List.setIfInBounds_toArray, List.set_cons_zero, List.set_cons_succ]
        refine wpAnyH_take (i := 8) (oi := { dst := some 10, op := Op.fieldAddr 24 (Operand.tmp 1) 2, type := 0, pos := "ref.go:280", after := #[{ on := 0, ground := Ground.phase }, { on := 1, ground := Ground.phase }, { on := 2, ground := Ground.phase }, { on := 3, ground := Ground.phase }, { on := 4, ground := Ground.phase }, { on := 5, ground := Ground.phase }, { on := 6, ground := Ground.phase }, { on := 7, ground := Ground.phase }], guard := none }) (v := ?vact17) rfl (by kernel_rfl) (by kernel_rfl) (by kernel_rfl) (fun _ _ _ h => h) (Or.inl ⟨by rfl, ?yact17⟩) trivial ?ract17
        case yact17 => (intro w hSw; (try dsimp only at hSw); go_simp; first | done | with_reducible rfl)
        simp only [Act.put, List.setIfInBounds_toArray, List.set_cons_zero, List.set_cons_succ]
        refine wpAnyH_ready (rs := [9]) (by decide +kernel) (by simp) ?_
        refine AllReadyH.cons (o := { dst := none, op := Op.store 9 (Operand.tmp 10) (Operand.tmp 8), type := 0, pos := "ref.go:280", after := #[{ on := 8, ground := Ground.data }, { on := 5, ground := Ground.data }, { on := 7, ground := Ground.chain }, { on := 0, ground := Ground.phase }, { on := 1, ground := Ground.phase }, { on := 2, ground := Ground.phase }, { on := 3, ground := Ground.phase }, { on := 4, ground := Ground.phase }, { on := 5, ground := Ground.phase }, { on := 6, ground := Ground.phase }, { on := 7, ground := Ground.phase }], guard := none }) rfl (fun K hK => ?_) AllReadyH.nil
        rw [if_pos (by rfl)]
        have p1 := q1.1
        have p2 := q1.2
        go_simp
        clear p1 p2
        refine hK.out _ _ trivial (fun _ => ?_)
        clear hK K
        try simp only [Act.put, List.setIfInBounds_toArray, List.set_cons_zero, List.set_cons_succ]
        refine wpAnyH_done (by decide +kernel) ?_ _
        go_wp2_with fail
        go_meet
        exact ⟨q3, q4, (q5 _ (by omega)).trans hz0⟩
      · rw [if_pos (by rfl)]
        go_simp
        refine hK.out _ _ trivial (fun _ => ?_)
        clear hK K
        try simp only [Act.put, List.setIfInBounds_toArray, List.set_cons_zero, List.set_cons_succ]
        refine wpAnyH_ready (rs := [2]) (by decide +kernel) (by simp) ?_
        refine AllReadyH.cons (o := { dst := some 5, op := Op.call { callee := Callee.value (Operand.func 5), args := #[Operand.tmp 4, Operand.const (Value.int IntKind.i64 30)], argTypes := #[9, 3] }, type := 9, pos := "ref.go:280", after := #[{ on := 1, ground := Ground.data }], guard := none }) rfl (fun K hK => ?_) AllReadyH.nil
        go_simp
        refine (C1.out _).mono ?_
        rintro e1 w9 ⟨rfl, rfl⟩
        refine hK.out _ _ trivial (fun _ => ?_)
        clear hK K
        try simp only [Act.put, List.setIfInBounds_toArray, List.set_cons_zero, List.set_cons_succ]
        refine wpAnyH_take (i := 6) (oi := { dst := some 9, op := Op.fieldAddr 24 (Operand.tmp 1) 1, type := 0, pos := "ref.go:280", after := #[{ on := 0, ground := Ground.phase }, { on := 1, ground := Ground.phase }, { on := 2, ground := Ground.phase }, { on := 3, ground := Ground.phase }, { on := 4, ground := Ground.phase }, { on := 5, ground := Ground.textOnly Departure.lateStoresUnsure }], guard := none }) (v := ?vact110) rfl (by kernel_rfl) (by kernel_rfl) (by kernel_rfl) (fun _ _ _ h => h) (Or.inl ⟨by rfl, ?yact110⟩) trivial ?ract110
        case yact110 => (intro w hSw; (try dsimp only at hSw); go_simp; first | done | with_reducible rfl)
        simp only [Act.put, List.setIfInBounds_toArray, List.set_cons_zero, List.set_cons_succ]
        refine wpAnyH_ready (rs := [5]) (by decide +kernel) (by simp) ?_
        refine AllReadyH.cons (o := { dst := some 8, op := Op.call { callee := Callee.value (Operand.func 5), args := #[Operand.tmp 7, Operand.const (Value.int IntKind.i64 30)], argTypes := #[9, 3] }, type := 9, pos := "ref.go:280", after := #[{ on := 4, ground := Ground.data }, { on := 2, ground := Ground.chain }], guard := none }) rfl (fun K hK => ?_) AllReadyH.nil
        go_simp
        refine (C2.out _).mono ?_
        rintro e1 w9 ⟨rfl, rfl⟩
        refine hK.out _ _ trivial (fun _ => ?_)
        clear hK K
        try simp only [Act.put, List.setIfInBounds_toArray, List.set_cons_zero, List.set_cons_succ]
        refine wpAnyH_ready (rs := [7]) (by decide +kernel) (by simp) ?_
        refine AllReadyH.cons (o := { dst := none, op := Op.store 9 (Operand.tmp 9) (Operand.tmp 5), type := 0, pos := "ref.go:280", after := #[{ on := 6, ground := Ground.data }, { on := 2, ground := Ground.data }, { on := 5, ground := Ground.chain }, { on := 0, ground := Ground.phase }, { on := 1, ground := Ground.phase }, { on := 2, ground := Ground.phase }, { on := 3, ground := Ground.phase }, { on := 4, ground := Ground.phase }, { on := 5, ground := Ground.textOnly Departure.lateStoresUnsure }], guard := none }) rfl (fun K hK => ?_) AllReadyH.nil
        rw [if_pos (by rfl)]
        go_simp
        refine hK.out _ _ trivial (fun _ => ?_)
        clear hK K
        try simp only [Act.put, List.setIfInBounds_toArray, List.set_cons_zero, List.set_cons_succ]
        refine wpAnyH_take (i := 8) (oi := { dst := some 10, op := Op.fieldAddr 24 (Operand.tmp 1) 2, type := 0, pos := "ref.go:280", after := #[{ on := 0, ground := Ground.phase }, { on := 1, ground := Ground.phase }, { on := 2, ground := Ground.phase }, { on := 3, ground := Ground.phase }, { on := 4, ground := Ground.phase }, { on := 5, ground := Ground.phase }, { on := 6, ground := Ground.phase }, { on := 7, ground := Ground.phase }], guard := none }) (v := ?vact112) rfl (by kernel_rfl) (by kernel_rfl) (by kernel_rfl) (fun _ _ _ h => h) (Or.inl ⟨by rfl, ?yact112⟩) trivial ?ract112
        case yact112 => (intro w hSw; (try dsimp only at hSw); go_simp; first | done | with_reducible rfl)
        simp only [Act.put, List.setIfInBounds_toArray, List.set_cons_zero, List.set_cons_succ]
        refine wpAnyH_ready (rs := [9]) (by decide +kernel) (by simp) ?_
        refine AllReadyH.cons (o := { dst := none, op := Op.store 9 (Operand.tmp 10) (Operand.tmp 8), type := 0, pos := "ref.go:280", after := #[{ on := 8, ground := Ground.data }, { on := 5, ground := Ground.data }, { on := 7, ground := Ground.chain }, { on := 0, ground := Ground.phase }, { on := 1, ground := Ground.phase }, { on := 2, ground := Ground.phase }, { on := 3, ground := Ground.phase }, { on := 4, ground := Ground.phase }, { on := 5, ground := Ground.phase }, { on := 6, ground := Ground.phase }, { on := 7, ground := Ground.phase }], guard := none }) rfl (fun K hK => ?_) AllReadyH.nil
        rw [if_pos (by rfl)]
        have p1 := q1.1
        have p2 := q1.2
        go_simp
        clear p1 p2
        refine hK.out _ _ trivial (fun _ => ?_)
        clear hK K
        try simp only [Act.put, List.setIfInBounds_toArray, List.set_cons_zero, List.set_cons_succ]
        refine wpAnyH_done (by decide +kernel) ?_ _
        go_wp2_with fail
        go_meet
        exact ⟨q3, q4, (q5 _ (by omega)).trans hz0⟩
    · rw [if_pos (by rfl)]
      go_simp
      refine hK.out _ _ trivial (fun _ => ?_)
      clear hK K
      try simp only [Act.put, List.setIfInBounds_toArray, List.set_cons_zero, List.set_cons_succ]
      refine wpAnyH_ready (rs := [1]) (by decide +kernel) (by simp) ?_
      refine AllReadyH.cons (o := { dst := some 4, op := Op.load 9 (Operand.tmp 3), type := 9, pos := "ref.go:280", after := #[{ on := 0, ground := Ground.data }], guard := none }) rfl (fun K hK => ?_) AllReadyH.nil
      rw [if_pos (by rfl)]
      go_simp
      refine hK.out _ _ trivial (fun _ => ?_)
      clear hK K
      try simp only [Act.put, List.setIfInBounds_toArray, List.set_cons_zero, List.set_cons_succ]
      refine wpAnyH_ready (rs := [2]) (by decide +kernel) (by simp) ?_
      refine AllReadyH.cons (o := { dst := some 5, op := Op.call { callee := Callee.value (Operand.func 5), args := #[Operand.tmp 4, Operand.const (Value.int IntKind.i64 30)], argTypes := #[9, 3] }, type := 9, pos := "ref.go:280", after := #[{ on := 1, ground := Ground.data }], guard := none }) rfl (fun K hK => ?_) AllReadyH.nil
      go_simp
      refine (C1.out _).mono ?_
      rintro e1 w9 ⟨rfl, rfl⟩
      refine hK.out _ _ trivial (fun _ => ?_)
      clear hK K
      try simp only [Act.put, List.setIfInBounds_toArray, List.set_cons_zero, List.set_cons_succ]
      refine wpAnyH_take (i := 6) (oi := { dst := some 9, op := Op.fieldAddr 24 (Operand.tmp 1) 1, type := 0, pos := "ref.go:280", after := #[{ on := 0, ground := Ground.phase }, { on := 1, ground := Ground.phase }, { on := 2, ground := Ground.phase }, { on := 3, ground := Ground.phase }, { on := 4, ground := Ground.phase }, { on := 5, ground := Ground.textOnly Departure.lateStoresUnsure }], guard := none }) (v := ?vact116) rfl (by kernel_rfl) (by kernel_rfl) (by kernel_rfl) (fun _ _ _ h => h) (Or.inl ⟨by rfl, ?yact116⟩) trivial ?ract116
      case yact116 => (intro w hSw; (try dsimp only at hSw); go_simp; first | done | with_reducible rfl)
      simp only [Act.put, List.setIfInBounds_toArray, List.set_cons_zero, List.set_cons_succ]
      refine wpAnyH_ready (rs := [5]) (by decide +kernel) (by simp) ?_
      refine AllReadyH.cons (o := { dst := some 8, op := Op.call { callee := Callee.value (Operand.func 5), args := #[Operand.tmp 7, Operand.const (Value.int IntKind.i64 30)], argTypes := #[9, 3] }, type := 9, pos := "ref.go:280", after := #[{ on := 4, ground := Ground.data }, { on := 2, ground := Ground.chain }], guard := none }) rfl (fun K hK => ?_) AllReadyH.nil
      go_simp
      refine (C2.out _).mono ?_
      rintro e1 w9 ⟨rfl, rfl⟩
      refine hK.out _ _ trivial (fun _ => ?_)
      clear hK K
      try simp only [Act.put, List.setIfInBounds_toArray, List.set_cons_zero, List.set_cons_succ]
      refine wpAnyH_ready (rs := [7]) (by decide +kernel) (by simp) ?_
      refine AllReadyH.cons (o := { dst := none, op := Op.store 9 (Operand.tmp 9) (Operand.tmp 5), type := 0, pos := "ref.go:280", after := #[{ on := 6, ground := Ground.data }, { on := 2, ground := Ground.data }, { on := 5, ground := Ground.chain }, { on := 0, ground := Ground.phase }, { on := 1, ground := Ground.phase }, { on := 2, ground := Ground.phase }, { on := 3, ground := Ground.phase }, { on := 4, ground := Ground.phase }, { on := 5, ground := Ground.textOnly Departure.lateStoresUnsure }], guard := none }) rfl (fun K hK => ?_) AllReadyH.nil
      rw [if_pos (by rfl)]
      go_simp
      refine hK.out _ _ trivial (fun _ => ?_)
      clear hK K
      try simp only [Act.put, List.setIfInBounds_toArray, List.set_cons_zero, List.set_cons_succ]
      refine wpAnyH_take (i := 8) (oi := { dst := some 10, op := Op.fieldAddr 24 (Operand.tmp 1) 2, type := 0, pos := "ref.go:280", after := #[{ on := 0, ground := Ground.phase }, { on := 1, ground := Ground.phase }, { on := 2, ground := Ground.phase }, { on := 3, ground := Ground.phase }, { on := 4, ground := Ground.phase }, { on := 5, ground := Ground.phase }, { on := 6, ground := Ground.phase }, { on := 7, ground := Ground.phase }], guard := none }) (v := ?vact118) rfl (by kernel_rfl) (by kernel_rfl) (by kernel_rfl) (fun _ _ _ h => h) (Or.inl ⟨by rfl, ?yact118⟩) trivial ?ract118
      case yact118 => (intro w hSw; (try dsimp only at hSw); go_simp; first | done | with_reducible rfl)
      simp only [Act.put, List.setIfInBounds_toArray, List.set_cons_zero, List.set_cons_succ]
      refine wpAnyH_ready (rs := [9]) (by decide +kernel) (by simp) ?_
      refine AllReadyH.cons (o := { dst := none, op := Op.store 9 (Operand.tmp 10) (Operand.tmp 8), type := 0, pos := "ref.go:280", after := #[{ on := 8, ground := Ground.data }, { on := 5, ground := Ground.data }, { on := 7, ground := Ground.chain }, { on := 0, ground := Ground.phase }, { on := 1, ground := Ground.phase }, { on := 2, ground := Ground.phase }, { on := 3, ground := Ground.phase }, { on := 4, ground := Ground.phase }, { on := 5, ground := Ground.phase }, { on := 6, ground := Ground.phase }, { on := 7, ground := Ground.phase }], guard := none }) rfl (fun K hK => ?_) AllReadyH.nil
      rw [if_pos (by rfl)]
      have p1 := q1.1
      have p2 := q1.2
      go_simp
      clear p1 p2
      refine hK.out _ _ trivial (fun _ => ?_)
      clear hK K
      try simp only [Act.put, List.setIfInBounds_toArray, List.set_cons_zero, List.set_cons_succ]
      refine wpAnyH_done (by decide +kernel) ?_ _
      go_wp2_with fail
      go_meet
      exact ⟨q3, q4, (q5 _ (by omega)).trans hz0⟩
  case rest =>
    obtain ⟨hrx, hbx, hzx⟩ := hcut
    have c3 : wc.cell? ⟨w.heap.size, 3, none⟩ = some (.slice ab n c) := by rw [cell_of_row wc w.heap.size 3 _ _ (0, 0) hrx]; rfl
    have HRX := Bx.mk hrx
    have HBX := Bx.mk hbx
    have HZX := Bx.mk hzx
    have HBB := Bx.mk (HB.out.below hbx)
    clear hrx hbx hzx
    go_wp2_with fail
    refine (cut_any ab n c 4200 x.b _ HBB.out (by decide)).mono ?_
    rintro e w2 ⟨⟨len, rfl, hl⟩, hw2⟩
    subst hw2
    have hlen : len ≤ 4200 := by have := hl.len_eq; rw [List.length_take] at this; omega
    have HL := Bx.mk hl
    have HLE := Bx.mk hlen
    clear hl
    go_wp2_with fail
    refine (copy_any ab len c _ _ HL.out (by omega)).mono ?_
    rintro e w3 ⟨v, rfl, hown, hb3⟩
    obtain ⟨av, cv, hv, hbv⟩ := Bts.of_owns (l := x.b.take 4200) (by rw [← HL.out.len_eq] at hown; exact hown) HL.out.byt
    subst hv
    rw [HL.out.len_eq] at hbv hown ⊢
    have hr3 : w3.heap[w.heap.size]? = some (.cells #[.int .i64 xk, .string m2, .string t2, .slice ab n c, .int .i64 xA, .int .i64 xB] 24 (0, 0)) := by rw [hb3.block _ (Array.getElem?_eq_some_iff.1 HRX.out).1]; exact HRX.out
    have hz3 : w3.heap[w.heap.size + 1]? = some (.cells askZ 24 (0, 0)) := by rw [hb3.block _ (Array.getElem?_eq_some_iff.1 HZX.out).1]; exact HZX.out
    have k3 : w3.cell? ⟨w.heap.size, 3, none⟩ = some (.slice ab n c) := by rw [cell_of_row w3 w.heap.size 3 _ _ (0, 0) hr3]; rfl
    have f3 : w3.frozen? ⟨w.heap.size, 3, none⟩ = false := frozen_of_row _ _ 3 _ _ hr3
    have hX3 : (w3.setCell ⟨w.heap.size, 3, none⟩ (.slice av len cv)).heap[w.heap.size]? = some (.cells #[.int .i64 xk, .string m2, .string t2, .slice av len cv, .int .i64 xA, .int .i64 xB] 24 (0, 0)) := heap_setCell_same w3 w.heap.size 3 _ _ _ hr3
    have hZ3 : (w3.setCell ⟨w.heap.size, 3, none⟩ (.slice av len cv)).heap[w.heap.size + 1]? = some (.cells askZ 24 (0, 0)) := (setCells_other (vs := [.slice av len cv]) (o := 3) (by omega)).trans hz3
    have hB3 : Below w.heap.size w (w3.setCell ⟨w.heap.size, 3, none⟩ (.slice av len cv)) := below_setCells (vs := [.slice av len cv]) (o := 3) (bstep HBX.out hb3) _ (Nat.le_refl _)
    have hge : ∀ p, av = some p → wc.heap.size ≤ p.block := fun p hp => by
      rcases hown.2 with ⟨h1, _⟩ | ⟨g', cap', cur, h1, h2, _⟩
      · have h9 := (Value.slice.inj h1).1; rw [hp] at h9; cases h9
      · have h9 := (Value.slice.inj h1).1; rw [hp] at h9; cases h9; exact h2
    have hV3 : Bts (w3.setCell ⟨w.heap.size, 3, none⟩ (.slice av len cv)) av len cv (x.b.take 4200) := hbv.keep (fun _ p hp => setCells_other (vs := [.slice av len cv]) (o := 3) (fun e => by have h1 := hge p hp; have h2 := (Array.getElem?_eq_some_iff.1 HRX.out).1; omega)) (by simp [World.setCell])
    have HTR : Bx ((w3.setCell ⟨w.heap.size, 3, none⟩ (.slice av len cv)).there (w.heap.size + 1) 0 6) := ⟨there_row hZ3⟩
    have HST : Bx (((w3.setCell ⟨w.heap.size, 3, none⟩ (.slice av len cv)).setCells (w.heap.size + 1) 0 #[.int .i64 xk, .string m2, .string t2, .slice av len cv, .int .i64 xA, .int .i64 xB].toList).heap[w.heap.size + 1]? = some (.cells #[.int .i64 xk, .string m2, .string t2, .slice av len cv, .int .i64 xA, .int .i64 xB] 24 (0, 0))) := ⟨heap_stored hZ3 rfl⟩
    have HFB : Bx (Below w.heap.size w ((w3.setCell ⟨w.heap.size, 3, none⟩ (.slice av len cv)).setCells (w.heap.size + 1) 0 #[.int .i64 xk, .string m2, .string t2, .slice av len cv, .int .i64 xA, .int .i64 xB].toList)) := ⟨below_setCells hB3 _ (by omega) _ 0⟩
    have HFV : Bx (Bts ((w3.setCell ⟨w.heap.size, 3, none⟩ (.slice av len cv)).setCells (w.heap.size + 1) 0 #[.int .i64 xk, .string m2, .string t2, .slice av len cv, .int .i64 xA, .int .i64 xB].toList) av len cv (x.b.take 4200)) := ⟨hV3.keep (fun _ p hp => setCells_other (fun e => by have h1 := hge p hp; have h2 := (Array.getElem?_eq_some_iff.1 HZX.out).1; omega) _ _) (by rw [setCells_size]; exact Nat.le_refl _)⟩
    have HX3 := Bx.mk hX3
    have HGE : Bx (∀ p, av = some p → w.heap.size ≤ p.block) := ⟨fun p hp => Nat.le_trans HBX.out.size (hge p hp)⟩
    have HONE : Bx ((#[.int .i64 xk, .string m2, .string t2, .slice av len cv, .int .i64 xA, .int .i64 xB] : Array Value).all (·.oneCell') = true) := ⟨by simp [Value.oneCell']⟩
    rw [← HXB.out.1] at *
    clear hX3 hZ3 hB3 hge hV3 hr3 hz3 hown hb3 hbv hlen
    go_wp2_with (first
      | (refine wpList_load_row rfl 24 (.tmp 1) rfl w.heap.size rfl 24 #[.int .i64 xk, .string m2, .string t2, .slice av len cv, .int .i64 xA, .int .i64 xB] (0, 0) _ HX3.out Tryz.underlying24 rfl ask_info22 ?_)
      | (refine wpList_store_mid rfl 24 (.tmp 2) (.tmp 16) rfl (w.heap.size + 1) 0 #[.int .i64 xk, .string m2, .string t2, .slice av len cv, .int .i64 xA, .int .i64 xB] rfl rfl HTR.out ask_info22 HONE.out ?_))
    exact bodyPost_ret (v := .agg #[.int .i64 xk, .string m2, .string t2, .slice av len cv, .int .i64 xA, .int .i64 xB]) (results_cell_row rfl _ _ (w.heap.size + 1) 24 _ (0, 0) _ rfl HST.out Tryz.underlying24 rfl ask_info22) rfl ⟨av, len, cv, rfl, HFV.out, HGE.out, HLE.out, HFB.out⟩
end Go.Proofs.YtpfijaojgeceeaaGreatDoor
