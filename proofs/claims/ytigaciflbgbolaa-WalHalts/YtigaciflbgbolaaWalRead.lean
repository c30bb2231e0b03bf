/- What readDisk and readFrames answer. -/
import Derived.Test.YtigaciflbgbolaaWalAll
namespace Go.Proofs.Ytigaciflbgbolaa
open Go.RowKit
set_option linter.unusedVariables false

set_option maxRecDepth 100000 in
theorem rd_at {s : DS} (h : s.off = false) (k : Nat) (hk : k < s.F.length) : s.rdE k = 0 ∧ s.rdL k = s.now.getD k [] := by
  have e : (decide (0 ≤ (k : Int)) && decide ((k : Int) < (s.F.length : Int))) = true := by simp; omega
  unfold DS.rdE DS.rdL
  rw [h, e]; exact ⟨rfl, rfl⟩
set_option maxRecDepth 100000 in
theorem now_len (s : DS) : s.now.length = s.F.length := app_len _ _
set_option maxRecDepth 100000 in
theorem now_sx {s : DS} (h : s.Ok) : Sxl s.now := app_sx h.f h.o
set_option maxRecDepth 100000 in
set_option maxHeartbeats 400000 in
theorem rdisk_off (g : Nat) (own : Nat → Prop) (s : DS) (w : World) (h : Dsk w g own s) (hoff : s.off = true) :
    Calls Try.prog 41 #[.pointer (some ⟨g, 0, none⟩)] w fun e w' => e = .returned (.tuple #[.slice none 0 0, .int .i64 14]) ∧ Below w.heap.size w w' := by
  have hn1 := h.ok.n1
  have HE : Bx (s.rdE 0 = 14 ∧ s.rdL 0 = []) := ⟨by unfold DS.rdE DS.rdL; rw [hoff]; exact ⟨rfl, rfl⟩⟩
  have HD : Bx (Dsk w g own s) := ⟨h⟩
  clear h hoff
  go_enter Try.func41, Try.ntmps41
  go_wp2_with fail
  refine (sectors_any g own s _ HD.out).mono ?_
  rintro e w' ⟨rfl, rfl⟩
  obtain ⟨n, HNL⟩ : ∃ n, Bx (n = s.F.length) := ⟨_, ⟨rfl⟩⟩
  rw [← HNL.out] at hn1 ⊢
  go_wp2
  go_loopw [10] (fun i wr => i = .int .i64 0 ∧ wr = w) (fun _ _ => 0)
  case atStart => exact ⟨rfl, rfl⟩
  case round =>
    obtain ⟨rfl, rfl⟩ := hrel
    have h0 : (0 : Int) < (n : Int) := by omega
    go_wp2_with fail
    refine (read_any g own s 0 _ HD.out).mono ?_
    rintro e w3 ⟨v, rfl, hown3, hb3⟩
    rw [HE.out.1]
    rw [HE.out.2] at hown3
    clear hown3
    go_wp2
    go_ret2
    exact ⟨rfl, hb3⟩
set_option maxRecDepth 100000 in
set_option maxHeartbeats 1000000 in
theorem rdisk_on (g : Nat) (own : Nat → Prop) (s : DS) (w : World) (h : Dsk w g own s) (hoff : s.off = false) :
    Calls Try.prog 41 #[.pointer (some ⟨g, 0, none⟩)] w fun e w' => ∃ v, e = .returned (.tuple #[v, .int .i64 0]) ∧ w'.ownsRow w.heap.size 5 1 v (64 * s.F.length) (bv (flat s.now)) ∧ Below w.heap.size w w' := by
  have hn2 := h.ok.n2
  have HNOW : Bx (s.now.length = s.F.length) := ⟨now_len s⟩
  have HSX : Bx (∀ k : Nat, k < s.F.length → (s.rdL k).length = 64 ∧ s.rdL k = s.now.getD k [] ∧ s.rdE k = 0 ∧ Byt (s.now.getD k [])) := ⟨fun k hk => by
    obtain ⟨e1, e2⟩ := rd_at hoff k hk
    have h1 := (now_sx h.ok).getD k (by rw [now_len]; exact hk)
    exact ⟨by rw [e2]; exact h1.1, e2, e1, h1.2⟩⟩
  have HD : Bx (Dsk w g own s) := ⟨h⟩
  clear h hoff
  obtain ⟨N, hN⟩ : ∃ N, N = w.heap.size := ⟨_, rfl⟩
  have HN : Hid (N = w.heap.size) := hN
  clear hN
  have hst : w.ownsRow N 5 1 (.slice none 0 0) (64 * 0) (bv (flat (s.now.take 0))) ∧ Below N w w := ⟨World.ownsRow_nil _ _ _ _, Below.refl _ _⟩
  obtain ⟨n, HNL⟩ : ∃ n, Bx (n = s.F.length) := ⟨_, ⟨rfl⟩⟩
  rw [← HNL.out] at hn2 HNOW HSX ⊢
  go_enter Try.func41, Try.ntmps41
  go_wp2_with fail
  refine (sectors_any g own s _ HD.out).mono ?_
  rintro e w' ⟨rfl, rfl⟩
  rw [← HNL.out]
  go_wp2
  go_loopw [4, 10] (fun v i wr => ∃ k : Nat, k ≤ n ∧ i = .int .i64 k ∧ wr.ownsRow N 5 1 v (64 * k) (bv (flat (s.now.take k))) ∧ Below N w wr) (fun _ i _ => n - (intOf i).toNat)
  case atStart => exact ⟨0, Nat.zero_le _, rfl, hst⟩
  case round =>
    clear hst
    obtain ⟨k, hk, rfl, hO, hlow⟩ := hrel
    have hbw : Below w.heap.size w wr := by rw [← HN.out]; exact hlow
    by_cases hlt : k < n
    · have hkI : (k : Int) < (n : Int) := by omega
      obtain ⟨e1, e2, e3, e4⟩ := HSX.out k hlt
      have hD := HD.out.below hbw
      have HMO : Bx (flat (s.now.take (k + 1)) = flat (s.now.take k) ++ s.now.getD k []) := ⟨by
        rw [take_one _ _ (by rw [HNOW.out]; exact hlt), flat_append]
        show _ ++ (_ ++ []) = _
        rw [List.append_nil]⟩
      go_wp2_with fail
      refine (read_any g own s k _ hD).mono ?_
      rintro e w3 ⟨v3, rfl, hown3, hb3⟩
      rw [e1, e2] at hown3
      rw [e3]
      obtain ⟨a3, c3, rfl, hm3⟩ := Bts.of_owns hown3 e4
      have hO3 := owns_below hO hb3
      have hlow3 : Below N w w3 := hlow.trans (hb3.mono (by rw [HN.out]; exact hbw.size))
      have hs3 : N ≤ w3.heap.size := by have := hb3.size; have := hbw.size; rw [HN.out]; omega
      have HLOW : Bx _ := ⟨hlow3⟩
      generalize s.now.getD k [] = y at hm3 HMO
      generalize flat (s.now.take k) = z at hO3 HMO
      clear hO hown3 hb3 hbw hlow hlow3 hD e1 e2 e3 e4
      go_wp2_with (at_builtin; refine wpList_append_bts rfl (.tmp 22) (.tmp 23) rfl N (64 * k) _ z rfl hO3 a3 64 c3 y rfl hm3 (by omega) hs3 ?_; intro v4 w4 hown4 hb4 _)
      rw [← HMO.out] at hown4
      have hlow4 := HLOW.out.trans hb4
      clear hb4 hO3 hm3 hs3 HLOW
      go_roundw
      case rel => exact ⟨k + 1, by omega, by go_num, hown4, hlow4⟩
      case measure => simp [intOf]; omega
    · have hkn : k = n := by omega
      have hO9 : wr.ownsRow w.heap.size 5 1 u4 (64 * n) (bv (flat s.now)) := by
        rw [hkn, List.take_of_length_le (by rw [HNOW.out]; exact Nat.le_refl _), HN.out] at hO
        exact hO
      clear hO hkn
      go_wp2
      go_ret2
      exact ⟨_, rfl, hO9, hbw⟩
end Go.Proofs.Ytigaciflbgbolaa
