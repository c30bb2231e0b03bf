/- The program's sumBytes and isSummed; Size; bytes.Clone; that anything is summed at all. -/
import Derived.Test.YtjnjokbdoendkaaGreatFFour
namespace Go.Proofs.YtjnjokbdoendkaaGreat
open Go.RowKit
set_option linter.unusedVariables false

set_option maxRecDepth 100000 in
set_option maxHeartbeats 400000 in
theorem sumb_any (a : Option Addr) (len cap : Nat) (l : List Int) (w : World) (h : Bts w a len cap l) :
    Calls Tryz.prog 108 #[.slice a len cap] w fun e w' => ∃ v, e = .returned v ∧ w'.ownsRow w.heap.size 5 1 v 4 (bv (four (crcN l))) ∧ Below w.heap.size w w' := by
  have hn := crcN_lt l
  go_enter Tryz.func108, Tryz.ntmps108
  go_wp2_with fail
  refine (crc_any a len cap l _ h).mono ?_
  rintro e w' ⟨rfl, rfl⟩
  generalize hN : crcN l = n at hn ⊢
  have HN : Bx (crcN l = n) := ⟨hN⟩
  clear hN
  clear h
  have hi : (n : Int) % 18446744073709551616 = (n : Int) := by omega
  have hp := put_some (n : Int) 4 w (by decide) (by decide) (by omega) (by omega)
  have HP : Bx (Calls Tryz.prog 106 #[.int .u64 (n : Int), .int .i64 4] w fun e w' => ∃ v, e = .returned v ∧ w'.ownsRow w.heap.size 5 1 v 4 (bv (putL (n : Int) 4)) ∧ Below w.heap.size w w') := ⟨hp⟩
  clear hp
  go_wp2_with fail
  refine HP.out.mono ?_
  rintro e w1 ⟨v, rfl, hown, hb1⟩
  obtain ⟨g, cap1, rfl, hg, _⟩ := owns_form hown (by decide)
  rw [put_four] at hown
  clear HP
  go_wp2_with fail
  refine (rev_any g cap1 _ _ _ _ _ _ hown hg).mono ?_
  rintro e w2 ⟨rfl, hown2, hb2⟩
  rw [rev_four] at hown2
  clear hown
  go_wp2
  go_ret
  exact ⟨_, rfl, by rw [HN.out]; exact hown2, hb1.trans hb2⟩

set_option maxRecDepth 100000 in
set_option maxHeartbeats 400000 in
theorem summed_any (a : Option Addr) (len cap n : Nat) (l : List Int) (w : World) (h : Bts w a len cap l) (hn : n + 4 ≤ len) :
    Calls Tryz.prog 118 #[.slice a len cap, .int .i64 n] w fun e w' => e = .returned (.bool (decide ((l.drop n).take 4 = four (crcN (l.take n))))) ∧ Below w.heap.size w w' := by
  have hlc := h.le_cap
  have hcm := h.cap_le
  have hcm' := hcm
  unfold maxLen at hcm'
  obtain ⟨b, off, rfl, _, _⟩ := h.spot (by omega)
  have hp := h.part n 4 (cap - n) hn (by omega) (by omega)
  have hq := h.cut n (by omega)
  have h0 : (0 : Int) ≤ (n : Int) := by omega
  have h1 : (n : Int) ≤ (n : Int) + 4 := by omega
  have h2 : (n : Int) + 4 ≤ (cap : Int) := by omega
  have h3 : (n : Int) ≤ (cap : Int) := by omega
  have HS : Bx (∀ w', Below w.heap.size w w' → Calls Tryz.prog 108 #[.slice (some ⟨b, off, none⟩) n cap] w' fun e w'' => ∃ v, e = .returned v ∧ w''.ownsRow w'.heap.size 5 1 v 4 (bv (four (crcN (l.take n)))) ∧ Below w'.heap.size w' w'') := ⟨fun w' hw => sumb_any _ _ _ _ _ (hq.below hw)⟩
  have HE : Bx (∀ w' a' c', Below w.heap.size w w' → Bts w' a' 4 c' (four (crcN (l.take n))) → Calls Tryz.prog 139 #[.slice (some ⟨b, off + n, none⟩) 4 (cap - n), .slice a' 4 c'] w' fun e w'' => e = .returned (.bool (decide ((l.drop n).take 4 = four (crcN (l.take n))))) ∧ w' = w'') := ⟨fun w' a' c' hw hb => beq_any _ _ _ _ _ _ _ _ _ (hp.below hw) hb⟩
  have HB : Bx (Byt (four (crcN (l.take n)))) := ⟨four_byt _⟩
  have hd : IntKind.i64.wrap ((n : Int) + 4) = (n : Int) + 4 := by rw [IntWalk.i64_in _ (by omega)]
  generalize decide ((l.drop n).take 4 = four (crcN (l.take n))) = r at HE ⊢
  generalize four (crcN (l.take n)) = f at HS HE HB
  have hz : ((n : Int) + 4).toNat - n = 4 := by omega
  have hl0 : Below w.heap.size w w.drew := (Below.refl _ _).drew
  clear hp hq h
  go_enter Tryz.func118, Tryz.ntmps118
  go_wp2_with fail
  go_region_held3 (fun w' => Below w.heap.size w w') (first | (exact hl0) | (exact bstep (by assumption) hb6) | (assumption)) (first
    | (go_at_call 108; refine (HS.out _ (by assumption)).mono ?_; rintro e6 w6 ⟨v6, rfl, hown6, hb6⟩; obtain ⟨a6, c6, rfl, hm6⟩ := Bts.of_owns hown6 HB.out)
    | (go_at_call 139; refine (HE.out _ _ _ (bstep hl0 hb6) hm6).mono ?_; rintro e7 w7 ⟨rfl, rfl⟩))
  rename_i hHeld
  clear HS HE hown6 hm6
  go_wp2
  go_ret
  exact ⟨rfl, hHeld⟩
set_option maxRecDepth 100000 in
theorem size_any (n : Int) (w : World) (h0 : n ≤ 9223372036854775787) :
    Calls Tryz.prog 92 #[.int .i64 n] w fun e w' => e = .returned (.int .i64 (20 + max n 0)) ∧ w = w' := by
  by_cases h : n < 0
  · have HM : Hid (20 + max n 0 = 20) := by show _ = _; omega
    go_enter Tryz.func92, Tryz.ntmps92
    go_wp2
    go_ret
    exact ⟨ret_int HM.out.symm, rfl⟩
  · have HM : Hid (20 + max n 0 = n + 20) := by show _ = _; omega
    have h1 : 0 ≤ n := by omega
    go_enter Tryz.func92, Tryz.ntmps92
    go_wp2
    go_ret
    exact ⟨ret_int (by rw [HM.out]; omega), rfl⟩
end Go.Proofs.YtjnjokbdoendkaaGreat
