/- Sums as bytes: the document's Four, the program's sumBytes and isSummed; Size; bytes.Clone; that anything is summed at all. The program's sumBytes and isSummed; Size; bytes.Clone; that anything is summed at all. -/
import Derived.Test.YtjnjokbdoendkaaGreatFSum
import Derived.Test.YtjnjokbdoendkaaGreatBEq
import Derived.Test.YtjnjokbdoendkaaGreatSma
import Derived.Test.YtjnjokbdoendkaaGreatConcat
namespace Go.Proofs.YtjnjokbdoendkaaGreat
open Go.RowKit
set_option linter.unusedVariables false

set_option maxRecDepth 100000 in
/-- a part of bytes -/
theorem Bts.part {w : World} {b off len cap : Nat} {l : List Int} (h : Bts w (some ⟨b, off, none⟩) len cap l) (o m cap' : Nat) (hom : o + m ≤ len) (hc : m ≤ cap') (hm : cap' ≤ maxLen) : Bts w (some ⟨b, off + o, none⟩) m cap' ((l.drop o).take m) := by
  have hl := h.len_eq
  refine ⟨by rw [List.length_take, List.length_drop]; omega, fun c hc => h.byt c (List.mem_of_mem_drop (List.mem_of_mem_take hc)), hc, hm, (fun hh => by cases hh), fun hp => ?_⟩
  obtain ⟨b', off', e, hlt, hcell⟩ := h.spot (by omega)
  cases e
  refine ⟨b, off + o, rfl, hlt, fun i hi => ?_⟩
  rw [Nat.add_assoc, hcell (o + i) (by omega), getD_take_drop _ _ _ _ hi]
set_option maxRecDepth 100000 in
theorem owns_row {w : World} {base n : Nat} {l : List Int} {A : Array Value} (hA : A = (bv l).toArray) (hl : l.length = n) (hm : n ≤ maxLen) (hb : base ≤ w.heap.size) :
    (w.alloc (.cells A 5)).ownsRow base 5 1 (.slice (some ⟨w.heap.size, 0, none⟩) n n) n (bv l) := by
  have h := owns_fresh w base n n l #[] hl (by simp) hm hb
  rw [Array.append_empty] at h
  rw [hA]; exact h
set_option maxRecDepth 100000 in
theorem owns_four (w : World) (n : Nat) (a b c d : Int) (ha : a = ((n % 256 : Nat) : Int)) (hb : b = ((n / 256 % 256 : Nat) : Int)) (hc : c = ((n / 65536 % 256 : Nat) : Int)) (hd : d = ((n / 16777216 % 256 : Nat) : Int)) :
    (w.alloc (.cells #[.int .u8 a, .int .u8 b, .int .u8 c, .int .u8 d] 5)).ownsRow w.heap.size 5 1 (.slice (some ⟨w.heap.size, 0, none⟩) 4 4) 4 (bv (four n)) := by
  refine owns_row (l := four n) ?_ rfl (by decide) (Nat.le_refl _)
  rw [ha, hb, hc, hd]; rfl
set_option maxRecDepth 100000 in
theorem crcN_lt (l : List Int) : crcN l < 4294967296 := (crcL l).isLt
set_option maxRecDepth 100000 in
set_option maxHeartbeats 400000 in
theorem four_any (n : Nat) (w : World) (hn : n < 4294967296) :
    Calls Tryz.prog 100 #[.int .u32 (n : Int)] w fun e w' => ∃ v, e = .returned v ∧ w'.ownsRow w.heap.size 5 1 v 4 (bv (four n)) ∧ Below w.heap.size w w' := by
  generalize hX : (n : Int) = X
  have HX : Hid ((n : Int) = X) := hX
  have hb : 0 ≤ X ∧ X ≤ 4294967295 := by omega
  have h4 : X / 16777216 % 256 = X / 16777216 := by omega
  clear hX
  go_enter Tryz.func100, Tryz.ntmps100
  go_wp2
  go_ret
  have hx := HX.out
  exact ⟨_, rfl, owns_four _ n _ _ _ _ (by omega) (by omega) (by omega) (by omega), (Below.refl _ _).alloc (Nat.le_refl _) _⟩
set_option maxRecDepth 100000 in
theorem put_four (n : Nat) : putL (n : Int) 4 = [sh n 3 % 256, sh n 2 % 256, sh n 1 % 256, sh n 0 % 256] := rfl
set_option maxRecDepth 100000 in
theorem rev_four (n : Nat) : [sh (n : Int) 0 % 256, sh (n : Int) 1 % 256, sh (n : Int) 2 % 256, sh (n : Int) 3 % 256] = four n := by
  have e1 : sh (n : Int) 1 = (n : Int) / 256 := by rw [sh_succ, sh_zero]
  have e2 : sh (n : Int) 2 = (n : Int) / 65536 := by rw [sh_succ, e1]; omega
  have e3 : sh (n : Int) 3 = (n : Int) / 16777216 := by rw [sh_succ, e2]; omega
  rw [sh_zero, e1, e2, e3]
  unfold four
  congr 1
set_option maxRecDepth 100000 in
set_option maxHeartbeats 1000000 in
theorem rev_any (g cap base : Nat) (a b c d : Int) (w : World) (hown : w.ownsRow base 5 1 (.slice (some ⟨g, 0, none⟩) 4 cap) 4 (bv [a, b, c, d])) (hg : base ≤ g) :
    Calls Tryz.prog 127 #[.slice (some ⟨g, 0, none⟩) 4 cap] w fun e w' => e = .returned (.tuple #[]) ∧ w'.ownsRow base 5 1 (.slice (some ⟨g, 0, none⟩) 4 cap) 4 (bv [d, c, b, a]) ∧ Below base w w' := by
  go_enter Tryz.func127, Tryz.ntmps127
  go_wp2
  go_loopw [2, 3] (fun i j wr => ((i = .int .i64 0 ∧ j = .int .i64 3 ∧ wr.ownsRow base 5 1 (.slice (some ⟨g, 0, none⟩) 4 cap) 4 (bv [a, b, c, d])) ∨ (i = .int .i64 1 ∧ j = .int .i64 2 ∧ wr.ownsRow base 5 1 (.slice (some ⟨g, 0, none⟩) 4 cap) 4 (bv [d, b, c, a])) ∨ (i = .int .i64 2 ∧ j = .int .i64 1 ∧ wr.ownsRow base 5 1 (.slice (some ⟨g, 0, none⟩) 4 cap) 4 (bv [d, c, b, a]))) ∧ Below base w wr) (fun i _ _ => 2 - (intOf i).toNat)
  case atStart => exact ⟨.inl ⟨rfl, rfl, hown⟩, Below.refl _ _⟩
  case round =>
    clear hown
    obtain ⟨⟨rfl, rfl, ho⟩ | ⟨rfl, rfl, ho⟩ | ⟨rfl, rfl, ho⟩, hb⟩ := hrel
    · have c0 : wr.cell? ⟨g, 0, none⟩ = some (.int .u8 a) := ho.cellAt 0 (by decide)
      have c3 : wr.cell? ⟨g, 3, none⟩ = some (.int .u8 d) := ho.cellAt 3 (by decide)
      have f0 := ho.frozenAt 0
      have f3 := ho.frozenAt 3
      have o0 := owns_drewN ho 1
      have o1 := o0.stored 0 (.int .u8 d)
      have o2 := o1.1.stored 3 (.int .u8 a)
      have o3 := o2.1
      have hb2 := ((below_drewN hb 1).setCell (p := ⟨g, 0, none⟩) hg (.int .u8 d)).setCell (p := ⟨g, 3, none⟩) hg (.int .u8 a)
      clear ho o0 o1 o2 hb
      go_wp2_with fail
      go_region
      go_wp2
      go_roundw
      case rel => exact ⟨.inr (.inl ⟨rfl, rfl, o3⟩), hb2⟩
      case measure => simp [intOf]
    · have c0 : wr.cell? ⟨g, 1, none⟩ = some (.int .u8 b) := ho.cellAt 1 (by decide)
      have c3 : wr.cell? ⟨g, 2, none⟩ = some (.int .u8 c) := ho.cellAt 2 (by decide)
      have f0 := ho.frozenAt 1
      have f3 := ho.frozenAt 2
      have o0 := owns_drewN ho 1
      have o1 := o0.stored 1 (.int .u8 c)
      have o2 := o1.1.stored 2 (.int .u8 b)
      have o3 := o2.1
      have hb2 := ((below_drewN hb 1).setCell (p := ⟨g, 1, none⟩) hg (.int .u8 c)).setCell (p := ⟨g, 2, none⟩) hg (.int .u8 b)
      clear ho o0 o1 o2 hb
      go_wp2_with fail
      go_region
      go_wp2
      go_roundw
      case rel => exact ⟨.inr (.inr ⟨rfl, rfl, o3⟩), hb2⟩
      case measure => simp [intOf]
    · go_wp2
      go_end0
      exact ⟨rfl, ho, hb⟩
end Go.Proofs.YtjnjokbdoendkaaGreat
namespace Go.Proofs.YtjnjokbdoendkaaGreat
open Go.RowKit
set_option linter.unusedVariables false

set_option maxRecDepth 100000 in
set_option maxHeartbeats 400000 in
theorem sumb_any (a : Option Addr) (len cap : Nat) (l : List Int) (w : World) (h : Bts w a len cap l) :
    Calls Tryz.prog 108 #[.slice a len cap] w fun e w' => ∃ v, e = .returned v ∧ w'.ownsRow w.heap.size 5 1 v 4 (bv (four (crcN l))) ∧ Below w.heap.size w w' := by
  have hn := crcN_lt l
  go_enter Tryz.func108, Tryz.ntmps108
  go_wp2_with fail
  refine (crc_any a len cap l _ h).mono ?_
  rintro e w' ⟨rfl, rfl⟩
  generalize hN : crcN l = n at hn ⊢
  have HN : Bx (crcN l = n) := ⟨hN⟩
  clear hN
  clear h
  have hi : (n : Int) % 18446744073709551616 = (n : Int) := by omega
  have hp := put_some (n : Int) 4 w (by decide) (by decide) (by omega) (by omega)
  have HP : Bx (Calls Tryz.prog 106 #[.int .u64 (n : Int), .int .i64 4] w fun e w' => ∃ v, e = .returned v ∧ w'.ownsRow w.heap.size 5 1 v 4 (bv (putL (n : Int) 4)) ∧ Below w.heap.size w w') := ⟨hp⟩
  clear hp
  go_wp2_with fail
  refine HP.out.mono ?_
  rintro e w1 ⟨v, rfl, hown, hb1⟩
  obtain ⟨g, cap1, rfl, hg, _⟩ := owns_form hown (by decide)
  rw [put_four] at hown
  clear HP
  go_wp2_with fail
  refine (rev_any g cap1 _ _ _ _ _ _ hown hg).mono ?_
  rintro e w2 ⟨rfl, hown2, hb2⟩
  rw [rev_four] at hown2
  clear hown
  go_wp2
  go_ret
  exact ⟨_, rfl, by rw [HN.out]; exact hown2, hb1.trans hb2⟩
set_option maxRecDepth 100000 in
set_option maxHeartbeats 400000 in
theorem summed_any (a : Option Addr) (len cap n : Nat) (l : List Int) (w : World) (h : Bts w a len cap l) (hn : n + 4 ≤ len) :
    Calls Tryz.prog 118 #[.slice a len cap, .int .i64 n] w fun e w' => e = .returned (.bool (decide ((l.drop n).take 4 = four (crcN (l.take n))))) ∧ Below w.heap.size w w' := by
  have hlc := h.le_cap
  have hcm := h.cap_le
  have hcm' := hcm
  unfold maxLen at hcm'
  obtain ⟨b, off, rfl, _, _⟩ := h.spot (by omega)
  have hp := h.part n 4 (cap - n) hn (by omega) (by omega)
  have hq := h.cut n (by omega)
  have h0 : (0 : Int) ≤ (n : Int) := by omega
  have h1 : (n : Int) ≤ (n : Int) + 4 := by omega
  have h2 : (n : Int) + 4 ≤ (cap : Int) := by omega
  have h3 : (n : Int) ≤ (cap : Int) := by omega
  have HS : Bx (∀ w', Below w.heap.size w w' → Calls Tryz.prog 108 #[.slice (some ⟨b, off, none⟩) n cap] w' fun e w'' => ∃ v, e = .returned v ∧ w''.ownsRow w'.heap.size 5 1 v 4 (bv (four (crcN (l.take n)))) ∧ Below w'.heap.size w' w'') := ⟨fun w' hw => sumb_any _ _ _ _ _ (hq.below hw)⟩
  have HE : Bx (∀ w' a' c', Below w.heap.size w w' → Bts w' a' 4 c' (four (crcN (l.take n))) → Calls Tryz.prog 139 #[.slice (some ⟨b, off + n, none⟩) 4 (cap - n), .slice a' 4 c'] w' fun e w'' => e = .returned (.bool (decide ((l.drop n).take 4 = four (crcN (l.take n))))) ∧ w' = w'') := ⟨fun w' a' c' hw hb => beq_any _ _ _ _ _ _ _ _ _ (hp.below hw) hb⟩
  have HB : Bx (Byt (four (crcN (l.take n)))) := ⟨four_byt _⟩
  have hd : IntKind.i64.wrap ((n : Int) + 4) = (n : Int) + 4 := by rw [IntWalk.i64_in _ (by omega)]
  generalize decide ((l.drop n).take 4 = four (crcN (l.take n))) = r at HE ⊢
  generalize four (crcN (l.take n)) = f at HS HE HB
  have hz : ((n : Int) + 4).toNat - n = 4 := by omega
  have hl0 : Below w.heap.size w w.drew := (Below.refl _ _).drew
  clear hp hq h
  go_enter Tryz.func118, Tryz.ntmps118
  go_wp2_with fail
  go_region_held3 (fun w' => Below w.heap.size w w') (first | (exact hl0) | (exact bstep (by assumption) hb6) | (assumption)) (first
    | (go_at_call 108; refine (HS.out _ (by assumption)).mono ?_; rintro e6 w6 ⟨v6, rfl, hown6, hb6⟩; obtain ⟨a6, c6, rfl, hm6⟩ := Bts.of_owns hown6 HB.out)
    | (go_at_call 139; refine (HE.out _ _ _ (bstep hl0 hb6) hm6).mono ?_; rintro e7 w7 ⟨rfl, rfl⟩))
  rename_i hHeld
  clear HS HE hown6 hm6
  go_wp2
  go_ret
  exact ⟨rfl, hHeld⟩
set_option maxRecDepth 100000 in
theorem size_any (n : Int) (w : World) (h0 : n ≤ 9223372036854775787) :
    Calls Tryz.prog 92 #[.int .i64 n] w fun e w' => e = .returned (.int .i64 (20 + max n 0)) ∧ w = w' := by
  by_cases h : n < 0
  · have HM : Hid (20 + max n 0 = 20) := by show _ = _; omega
    go_enter Tryz.func92, Tryz.ntmps92
    go_wp2
    go_ret
    exact ⟨ret_int HM.out.symm, rfl⟩
  · have HM : Hid (20 + max n 0 = n + 20) := by show _ = _; omega
    have h1 : 0 ≤ n := by omega
    go_enter Tryz.func92, Tryz.ntmps92
    go_wp2
    go_ret
    exact ⟨ret_int (by rw [HM.out]; omega), rfl⟩
end Go.Proofs.YtjnjokbdoendkaaGreat
