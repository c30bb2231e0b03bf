/- What the small calls of a log answer. -/
import Derived.Test.YtjnjokbdoendkaaGreatWalMem
namespace Go.Proofs.YtjnjokbdoendkaaGreat
open Go.RowKit
set_option linter.unusedVariables false

set_option maxHeartbeats 400000 in
theorem lmade_yes (gl gd : Nat) (w : World) (c0 : w.cell? ⟨gl, 0, none⟩ = some (.pointer (some ⟨gd, 0, none⟩))) :
    Calls Tryz.prog 61 #[.pointer (some ⟨gl, 0, none⟩)] w fun e w' => e = .returned (.bool true) ∧ w = w' := by
  go_enter Tryz.func61, Tryz.ntmps61
  go_wp2
  go_ret
  exact ⟨rfl, rfl⟩
set_option maxHeartbeats 400000 in
theorem number_any (a : Option Addr) (n c : Nat) (w : World) (hn : n ≤ 4096) :
    Calls Tryz.prog 76 #[.slice a n c] w fun e w' => e = .returned (.int .u64 ((n : Int) + 1)) ∧ w = w' := by
  have h1 : (n : Int) % 18446744073709551616 = (n : Int) := by omega
  go_enter Tryz.func76, Tryz.ntmps76
  go_wp2
  go_ret
  exact ⟨rfl, rfl⟩
set_option maxHeartbeats 400000 in
theorem wsec_any (n : Nat) (w : World) (hn : n ≤ 1000000) :
    Calls Tryz.prog 77 #[.int .i64 (n : Int)] w fun e w' => e = .returned (.int .i64 (ns n : Int)) ∧ w = w' := by
  have HE : Hid (((n : Int) + 64 - 1) / 64 = ((ns n : Nat) : Int)) := by
    show _ = _
    unfold ns; omega
  go_enter Tryz.func77, Tryz.ntmps77
  go_wp2
  go_ret
  exact ⟨ret_int HE.out, rfl⟩
set_option maxRecDepth 100000 in
theorem eq_any (e : TypeId) (k : IntKind) (he : Tryz.prog.underlying e = some (.int k)) (hp : Tryz.prog.plainKey e = true) (d : Nat) (xs ys : Array Value) (f g : Nat → Int) (w : World) : ∀ is : List Nat, (∀ i ∈ is, xs[i]? = some (.int k (f i))) → (∀ i ∈ is, ys[i]? = some (.int k (g i))) →
    (Op.eqItems (d + 1) e 1 xs ys is).run Tryz.prog w = .ok (is.all fun i => decide (f i = g i)) w := by
  intro is
  induction is with
  | nil => intro _ _; simp [Op.eqItems]
  | cons i r ih =>
    intro h1 h2
    have hpt1 := run_part_plain (P := Tryz.prog) (w := w) hp (xs := xs) (off := i * 1) (by rw [Nat.mul_one]; exact h1 i (by simp))
    have hpt2 := run_part_plain (P := Tryz.prog) (w := w) hp (xs := ys) (off := i * 1) (by rw [Nat.mul_one]; exact h2 i (by simp))
    have heq := run_equalIn_int (P := Tryz.prog) w d e k k (f i) (g i) he
    have hih := ih (fun j hj => h1 j (by simp [hj])) (fun j hj => h2 j (by simp [hj]))
    simp only [Op.eqItems, Sem.run_bind, hpt1, hpt2, heq, Result.andThen_ok]
    by_cases hfg : f i = g i
    · simp [hfg, hih]
    · simp [hfg]
set_option maxRecDepth 100000 in
theorem sec_cmp (l m : List Int) (hl : l.length = 64) (hm : m.length = 64) (w : World) : (Op.equalIn 10000 178 (.agg (bv l).toArray) (.agg (bv m).toArray)).run Tryz.prog w = .ok (decide (l = m)) w := by
  obtain ⟨i0, hi, hz0, hz1, hz2⟩ := info_parts Tryz.info5
  have hcell : ∀ (x : List Int), x.length = 64 → ∀ i ∈ List.range 64, (bv x).toArray[i]? = some (.int .u8 (x.getD i 0)) := by
    intro x hx i hi
    have : i < 64 := by simpa using hi
    rw [List.getElem?_toArray]
    unfold bv; rw [List.getElem?_map, List.getElem?_eq_getElem (by omega), List.getD_eq_getElem?_getD, List.getElem?_eq_getElem (by omega)]; rfl
  rw [show (10000 : Nat) = 9998 + 1 + 1 from rfl, run_equalIn_array w (9998 + 1) _ _ Tryz.underlying178 hi, show Tryz.prog.cellsOf 5 = 1 by kernel_rfl]
  rw [eq_any 5 .u8 Tryz.underlying5 (by kernel_rfl) 9998 _ _ (fun i => l.getD i 0) (fun i => m.getD i 0) w (List.range 64) (hcell l hl) (hcell m hm)]
  congr 1
  by_cases he : l = m
  · subst he; simp
  · rw [decide_eq_false he]
    rw [List.all_eq_false]
    obtain ⟨i, hne⟩ : ∃ i, l[i]? ≠ m[i]? := Classical.byContradiction fun h => he (List.ext_getElem? fun i => Classical.byContradiction fun hi => h ⟨i, hi⟩)
    have hi64 : i < 64 := by
      refine Classical.byContradiction fun h => hne ?_
      rw [List.getElem?_eq_none (by omega), List.getElem?_eq_none (by omega)]
    refine ⟨i, by simpa using hi64, ?_⟩
    rw [List.getElem?_eq_getElem (by omega), List.getElem?_eq_getElem (by omega)] at hne
    simp only [List.getD_eq_getElem?_getD, List.getElem?_eq_getElem (by omega : i < l.length), List.getElem?_eq_getElem (by omega : i < m.length), Option.getD_some, decide_eq_true_eq]
    exact fun h => hne (by rw [h])
set_option maxRecDepth 100000 in
theorem arr_at (b o : Nat) (len cap : Nat) (h : 64 ≤ len) (w : World) : (Instr.arrayAt 178 (.slice (some ⟨b, o, none⟩) len cap)).run Tryz.prog w = .ok (.pointer (some ⟨b, o, none⟩)) w := by
  have hu : (underlying 178).run Tryz.prog w = .ok (.array 64 5) w := by kernel_rfl
  unfold Instr.arrayAt
  simp only [Sem.run_bind, hu, Result.andThen_ok]
  rw [if_neg (by omega)]; rfl
set_option maxRecDepth 100000 in
theorem zero_sec (w : World) : (Instr.build 178 #[]).run Tryz.prog w = .ok (.agg (bv s0).toArray) w := by kernel_rfl
set_option maxRecDepth 100000 in
theorem sec_info10 : (Tryz.prog.info? 178).map (·.size) = some 64 := by kernel_rfl
set_option maxRecDepth 100000 in
theorem wpList_zero_sec {ops : Array Oper} {rest : List Oper} {o : Oper} {a : Act} {w : World} {Q : Exit → Act → World → Prop} (hgd : o.guard = none) (ho : o.op = .build 178 #[])
    (h : wpList Tryz.prog ops Q rest (a.put o.dst (.agg (bv s0).toArray)) w) : wpList Tryz.prog ops Q (o :: rest) a w := by
  refine wpList_run hgd (.agg (bv s0).toArray) w ?_ h
  unfold execOp
  simp [ho, zero_sec]
set_option maxRecDepth 100000 in
set_option maxHeartbeats 400000 in
theorem noughts_any (a : Option Addr) (len cap k : Nat) (l : List Int) (w : World) (h : Bts w a len cap l) (hk : 64 * (k + 1) ≤ len) (hk2 : k ≤ 1000000) :
    Calls Tryz.prog 94 #[.slice a len cap, .int .i64 (k : Int)] w fun e w' => e = .returned (.bool (decide ((l.drop (64 * k)).take 64 = s0))) ∧ w = w' := by
  have hlc := h.le_cap
  have hcm := h.cap_le
  have hl := h.len_eq
  obtain ⟨b, off, rfl, _, hcell⟩ := h.spot (by omega)
  have hX : ((l.drop (64 * k)).take 64).length = 64 := by rw [List.length_take, List.length_drop]; omega
  have hrg : w.rangeAt b (off + k * 64) (bv ((l.drop (64 * k)).take 64)) := by
    intro j v hj
    have hj64 : j < 64 := by have := (List.getElem?_eq_some_iff.1 hj).1; rw [bv_length, hX] at this; exact this
    have h1 := hcell (64 * k + j) (by omega)
    rw [show off + k * 64 + j = off + (64 * k + j) from by omega, h1]
    rw [← hj]
    unfold bv
    rw [List.getElem?_map, List.getElem?_take, if_pos hj64, List.getElem?_drop, List.getElem?_eq_getElem (by omega), List.getD_eq_getElem?_getD, List.getElem?_eq_getElem (by omega)]; rfl
  generalize (l.drop (64 * k)).take 64 = X at hX hrg
  have hsec := sec_cmp X s0 hX (by rfl) 
  have hi : (Tryz.prog.info? 178).map (·.size) = some (bv X).length := by rw [bv_length, hX]; exact sec_info10
  have k1 : (k : Int) * 64 ≤ ((k : Int) + 1) * 64 := by omega
  have k2 : ((k : Int) + 1) * 64 ≤ (cap : Int) := by omega
  have k3 : (((k : Int) + 1) * 64).toNat - ((k : Int) * 64).toNat = 64 := by omega
  unfold maxLen at hcm
  clear hcell hl h
  go_enter Tryz.func94, Tryz.ntmps94
  have hat := arr_at b (off + k * 64) 64 (cap - k * 64) (Nat.le_refl _)
  go_wp2_with (first
    | (refine wpList_load_mid rfl 178 (.tmp 12) rfl b (off + k * 64) rfl (bv X) _ hrg Tryz.underlying178 rfl hi ?_; clear hrg)
    | (refine wpList_zero_sec rfl rfl ?_))
  go_ret
  exact ⟨rfl, rfl⟩
end Go.Proofs.YtjnjokbdoendkaaGreat
