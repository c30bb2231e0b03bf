/- What cut answers: a frame's pieces. -/
import Derived.Test.YtigaciflbgbolaaWalOpen
namespace Go.Proofs.Ytigaciflbgbolaa
open Go.RowKit
set_option linter.unusedVariables false

set_option maxRecDepth 100000 in
set_option maxHeartbeats 1000000 in
theorem cutf_any (b off len cap : Nat) (f : List Int) (w : World) (h : Bts w (some ⟨b, off, none⟩) len cap f) (hlen : len ≤ 20000) (hp : 0 < len) :
    Calls Try.prog 52 #[.slice (some ⟨b, off, none⟩) len cap] w fun e w' => ∃ v, e = .returned v ∧ TL w' (fun k => k = b ∨ (w.heap.size ≤ k ∧ k < w'.heap.size)) v (prt f) ∧ Below w.heap.size w w' := by
  have hl := h.len_eq
  have hlc := h.le_cap
  have hblt := h.lt hp rfl
  have HB : Bx (Bts w (some ⟨b, off, none⟩) len cap f) := ⟨h⟩
  have HPL : Bx ((prt f).length = ns len) := ⟨by rw [prt_len, hl]⟩
  have HPG : Bx (∀ k, k < ns len → (prt f).getD k [] = (f.drop (64 * k)).take 64) := ⟨fun k hk => prt_getD f k (by rw [hl]; exact hk)⟩
  have HFL : Bx (f.length = len) := ⟨hl⟩
  have hcm := h.cap_le
  clear h hl
  obtain ⟨N, hN⟩ : ∃ N, N = w.heap.size := ⟨_, rfl⟩
  have HN : Hid (N = w.heap.size) := hN
  rw [← hN] at hblt
  have hst : TL w (fun k => k = b ∨ N ≤ k) (.slice none 0 0) ((prt f).take 0) ∧ Below N w w ∧ ∀ j, (Value.slice none 0 0).ownBlock = some j → N ≤ j := ⟨TL.nil _ _, Below.refl _ _, fun j hj => by simp [Value.ownBlock] at hj⟩
  clear hN
  go_enter Try.func52, Try.ntmps52
  go_wp2
  go_loopw [3, 4] (fun v i wr => ∃ k : Nat, k ≤ ns len ∧ i = .int .i64 (64 * (k : Int)) ∧ TL wr (fun k => k = b ∨ N ≤ k) v ((prt f).take k) ∧ Below N w wr ∧ ∀ j, v.ownBlock = some j → N ≤ j) (fun _ i _ => len + 64 - (intOf i).toNat)
  case atStart => exact ⟨0, Nat.zero_le _, rfl, hst⟩
  case round =>
    clear hst
    obtain ⟨k, hk, rfl, hT, hlow, hvb⟩ := hrel
    obtain ⟨vAll, hvAll⟩ : ∃ vAll, vAll = u3 := ⟨_, rfl⟩
    subst hvAll
    have hbw : Below w.heap.size w wr := by rw [← HN.out]; exact hlow
    have hs3 : N ≤ wr.heap.size := by rw [HN.out]; exact hbw.size
    have hns : 64 * ns len < len + 64 ∧ len ≤ 64 * ns len := by unfold ns; omega
    by_cases hlt : 64 * k < len
    · have hkI : 64 * (k : Int) < (len : Int) := by omega
      have hkn : k < ns len := by omega
      have HMO : Bx ((prt f).take (k + 1) = (prt f).take k ++ [(f.drop (64 * k)).take 64]) := ⟨by rw [take_one _ _ (by rw [HPL.out]; exact hkn), HPG.out k hkn]⟩
      have HLL : Bx (k = ((prt f).take k).length) := ⟨by rw [List.length_take, HPL.out]; omega⟩
      obtain ⟨xs, hown, HTA⟩ := hT.open
      rw [← HLL.out] at hown
      have HVB : Bx _ := ⟨hvb⟩
      have HLOW : Bx _ := ⟨hlow⟩
      have HBW := HB.out.below hbw
      obtain ⟨i0, hi, hz0, hz1, hz2⟩ := info_parts Try.info22
      have HFAR0 : Bx (∀ n, 0 < n → ∀ q : Addr, some (⟨b, off + 64 * k, none⟩ : Addr) = some q → (q.block = b ∨ N ≤ q.block) ∧ vAll.ownBlock ≠ some q.block) := ⟨fun _ _ q e => by cases e; exact ⟨.inl rfl, fun e2 => by have := hvb b e2; omega⟩⟩
      by_cases hend : len < 64 * k + 64
      · have HPT : Bx (Bts wr (some ⟨b, off + 64 * k, none⟩) (len - 64 * k) (len - 64 * k) ((f.drop (64 * k)).take 64)) := ⟨by
          have h1 := HBW.part (64 * k) (len - 64 * k) (len - 64 * k) (by omega) (Nat.le_refl _) (by omega)
          refine h1.list ?_
          rw [List.take_of_length_le (by rw [List.length_drop, HFL.out]; exact Nat.le_refl _), List.take_of_length_le (by rw [List.length_drop, HFL.out]; omega)]⟩
        have HFAR : Bx _ := ⟨HFAR0.out (len - 64 * k)⟩
        have hend' : (len : Int) < 64 * (k : Int) + 64 := by omega
        clear HBW hT hlow hvb
        go_wp2_with (at_builtin; refine wpList_append_lies _ rfl (.tmp 17) (.tmp 23) 60 rfl 0 38 i0 (.slice none 0 0) 1 24 Try.underlying60 hi hz0 hz1 hz2 rfl (by decide) _ k xs rfl (hown.alloc _) ⟨wr.heap.size, 0, none⟩ 1 1 [.slice (some ⟨b, off + 64 * k, none⟩) (len - 64 * k) (len - 64 * k)] rfl rfl (cell_one_new _ _ _) (by simp [Value.oneCell']) (by decide) (by unfold maxLen; omega) (by omega) (Nat.zero_le _) _ rfl ?_; intro g4 cap4 w4 hown4 hgr4 hl4 _)
        have hbig : (wr.alloc (.cells #[.slice (some ⟨b, off + 64 * k, none⟩) (len - 64 * k) (len - 64 * k)] 38)).heap.size = wr.heap.size + 1 := by simp
        have hg4 : N ≤ g4 := by
          rcases hl4 with h1 | h1
          · exact HVB.out g4 h1
          · rw [h1, hbig]; omega
        have hT4 := HTA.out.done HLL.out HPT.out HFAR.out hown4 hgr4 hl4 (fun _ h => h) (.inr hg4)
        have hK4 : Below N w w4 := (HLOW.out.alloc hs3 _).grown hgr4 (by rw [hbig]; omega) HVB.out
        rw [← HMO.out] at hT4
        have HG4 : Bx (∀ j, (Value.slice (some ⟨g4, 0, none⟩) (k + 1) cap4).ownBlock = some j → N ≤ j) := ⟨fun j hj => by
          have e : g4 = j := by simpa [Value.ownBlock] using hj
          omega⟩
        clear hown4 hgr4 hl4 hown hi hz0 hz1 hz2 hbig hg4
        go_roundw
        case rel => exact ⟨k + 1, by omega, by go_num, hT4, hK4, HG4.out⟩
        case measure => simp [intOf]; omega
      · have HPT : Bx (Bts wr (some ⟨b, off + 64 * k, none⟩) 64 64 ((f.drop (64 * k)).take 64)) := ⟨HBW.part (64 * k) 64 64 (by omega) (Nat.le_refl _) (by unfold maxLen; omega)⟩
        have HFAR : Bx _ := ⟨HFAR0.out 64⟩
        have hend' : ¬ (len : Int) < 64 * (k : Int) + 64 := by omega
        have k3 : (64 * (k : Int) + 64).toNat - (64 * (k : Int)).toNat = 64 := by omega
        have k4 : 64 * (k : Int) + 64 ≤ (cap : Int) := by omega
        have k5 : 64 * (k : Int) ≤ 64 * (k : Int) + 64 := by omega
        clear HBW hT hlow hvb
        go_wp2_with (at_builtin; refine wpList_append_lies _ rfl (.tmp 17) (.tmp 23) 60 rfl 0 38 i0 (.slice none 0 0) 1 24 Try.underlying60 hi hz0 hz1 hz2 rfl (by decide) _ k xs rfl (hown.alloc _) ⟨wr.heap.size, 0, none⟩ 1 1 [.slice (some ⟨b, off + 64 * k, none⟩) 64 64] rfl rfl (cell_one_new _ _ _) (by simp [Value.oneCell']) (by decide) (by unfold maxLen; omega) (by omega) (Nat.zero_le _) _ rfl ?_; intro g4 cap4 w4 hown4 hgr4 hl4 _)
        have hbig : (wr.alloc (.cells #[.slice (some ⟨b, off + 64 * k, none⟩) 64 64] 38)).heap.size = wr.heap.size + 1 := by simp
        have hg4 : N ≤ g4 := by
          rcases hl4 with h1 | h1
          · exact HVB.out g4 h1
          · rw [h1, hbig]; omega
        have hT4 := HTA.out.done HLL.out HPT.out HFAR.out hown4 hgr4 hl4 (fun _ h => h) (.inr hg4)
        have hK4 : Below N w w4 := (HLOW.out.alloc hs3 _).grown hgr4 (by rw [hbig]; omega) HVB.out
        rw [← HMO.out] at hT4
        have HG4 : Bx (∀ j, (Value.slice (some ⟨g4, 0, none⟩) (k + 1) cap4).ownBlock = some j → N ≤ j) := ⟨fun j hj => by
          have e : g4 = j := by simpa [Value.ownBlock] using hj
          omega⟩
        clear hown4 hgr4 hl4 hown hi hz0 hz1 hz2 hbig hg4
        go_roundw
        case rel => exact ⟨k + 1, by omega, by go_num, hT4, hK4, HG4.out⟩
        case measure => simp [intOf]; omega
    · have hkn : k = ns len := by omega
      have hkI : ¬ 64 * (k : Int) < (len : Int) := by omega
      have hT9 := hT.lst (M := prt f) (by rw [hkn, ← HPL.out]; exact List.take_length)
      have hT8 : TL wr (fun k => k = b ∨ (w.heap.size ≤ k ∧ k < wr.heap.size)) vAll (prt f) := hT9.keep (fun _ _ _ => rfl) (Nat.le_refl _) (fun k hk ho => by
        rcases ho with h1 | h1
        · exact .inl h1
        · exact .inr ⟨by rw [← HN.out]; exact h1, hk⟩)
      clear hT hT9 hkn hlow hvb
      go_wp2
      go_ret
      exact ⟨_, rfl, hT8, hbw⟩
end Go.Proofs.Ytigaciflbgbolaa
