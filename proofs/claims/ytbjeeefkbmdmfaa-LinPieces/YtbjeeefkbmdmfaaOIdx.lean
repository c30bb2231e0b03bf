/- Whether a number stands in a list; each stands there once. -/
import Derived.Test.YtbjeeefkbmdmfaaLnd
import Derived.Test.YtbjeeefkbmdmfaaLnb
import Derived.BigQuiet
namespace Go.Proofs.Ytbjeeefkbmdmfaa
open Go.RowKit
set_option linter.unusedVariables false

/-- where a number stands first -/
def ixF : List Int → Int → Nat → Int
  | [], _, _ => -1
  | y :: t, x, k => if x = y then (k : Int) else ixF t x (k + 1)
set_option maxRecDepth 100000 in
theorem ixF_in (x : Int) : ∀ (L : List Int) (k : Nat), decide (0 ≤ ixF L x k) = L.contains x
  | [], _ => by simp [ixF]
  | y :: t, k => by
    unfold ixF
    by_cases h : x = y
    · rw [if_pos h, List.contains_cons, beq_iff_eq.2 h]; simp
    · rw [if_neg h, List.contains_cons, ixF_in x t (k + 1), beq_false_of_ne h, Bool.false_or]
set_option maxRecDepth 100000 in
theorem ixF_drop {L : List Int} {x : Int} {k : Nat} (h : k < L.length) : ixF (L.drop k) x k = if x = L.getD k 0 then (k : Int) else ixF (L.drop (k + 1)) x (k + 1) := by
  rw [List.drop_eq_getElem_cons h, List.getD_eq_getElem?_getD, List.getElem?_eq_getElem h]; rfl
set_option maxHeartbeats 4000000 in
set_option maxRecDepth 100000 in
theorem index_any (a : Option Addr) (n c : Nat) (L : List Int) (x : Int) (w : World) (h : Ivs w a n c L) :
    Calls Try.prog 75 #[.slice a n c, .int .i64 x] w fun e w' => e = .returned (.int .i64 (ixF L x 0)) ∧ Below w.heap.size w w' := by
  have H := Bx.mk h
  have HLEN : Bx (L.length = n) := ⟨h.len_eq⟩
  have hn := Nat.le_trans h.le_cap h.cap_le
  unfold maxLen at hn
  obtain ⟨R, HR⟩ : ∃ R, Bx (ixF (L.drop 0) x 0 = R) := ⟨_, ⟨rfl⟩⟩
  rw [show ixF L x 0 = R from HR.out]
  clear h
  go_enter Try.func75, Try.ntmps75
  go_wp2_with fail
  go_loopw [8] (fun i wr => ∃ k : Nat, k ≤ n ∧ i = .int .i64 k ∧ Bx (ixF (L.drop k) x k = R) ∧ Bx (Below w.heap.size w wr)) (fun i _ => n - (intOf i).toNat)
  case atStart => exact ⟨0, Nat.zero_le _, rfl, HR, ⟨Below.refl _ _⟩⟩
  case round =>
    clear HR
    obtain ⟨k, hk, rfl, HR, HB⟩ := hrel
    by_cases hlt : k < n
    · obtain ⟨b1, o1, rfl, _, x0⟩ := (H.out.below HB.out).iv k hlt 0
      have hki : (k : Int) < (n : Int) := by omega
      have HD := Bx.mk (ixF_drop (x := x) (show k < L.length by rw [HLEN.out]; exact hlt))
      rw [HR.out] at HD
      generalize L.getD k 0 = y at x0 HD
      by_cases hxy : x = y
      · have HF : Bx (R = (k : Int)) := ⟨by rw [HD.out, if_pos hxy]⟩
        have hq : (x == y) = true := by simpa using hxy
        go_wp2_with fail
        go_ret
        exact ⟨by rw [HF.out]; rfl, HB.out⟩
      · have HR2 : Bx (ixF (L.drop (k + 1)) x (k + 1) = R) := ⟨by rw [HD.out, if_neg hxy]⟩
        have hq : (x == y) = false := by simpa using hxy
        clear hxy HD HR
        go_wp2_with fail
        go_roundw
        case rel => exact ⟨k + 1, by omega, by go_num, HR2, HB⟩
        case measure => simp [intOf]; omega
    · have hki : ¬ (k : Int) < (n : Int) := by omega
      have HF : Bx (R = -1) := ⟨by rw [← HR.out, List.drop_eq_nil_of_le (by rw [HLEN.out]; omega)]; rfl⟩
      go_wp2_with fail
      go_ret
      exact ⟨by rw [HF.out]; rfl, HB.out⟩
set_option maxHeartbeats 4000000 in
set_option maxRecDepth 100000 in
theorem contains_any (a : Option Addr) (n c : Nat) (L : List Int) (x : Int) (w : World) (h : Ivs w a n c L) :
    Calls Try.prog 66 #[.slice a n c, .int .i64 x] w fun e w' => e = .returned (.bool (L.contains x)) ∧ Below w.heap.size w w' := by
  have H := Bx.mk h
  obtain ⟨t, HT⟩ : ∃ t, Bx (L.contains x = t) := ⟨_, ⟨rfl⟩⟩
  have HQ : Bx (decide (0 ≤ ixF L x 0) = t) := ⟨by rw [← HT.out]; exact ixF_in x L 0⟩
  rw [HT.out]
  clear h
  go_enter Try.func66, Try.ntmps66
  go_wp2_with fail
  refine (index_any a n c L x _ H.out).mono ?_
  rintro e w1 ⟨rfl, hb⟩
  generalize ixF L x 0 = r at HQ ⊢
  have HB := Bx.mk hb
  clear hb
  have hq := HQ.out
  go_wp2_with fail
  go_ret
  exact ⟨rfl, HB.out⟩
/-- who stands there: sixty-four bools in a variable -/
def WC (w : World) (g : Nat) (W : Int → Bool) : Prop := ∃ cs : Array Value, w.heap[g]? = some (.cells cs 117 (0, 0)) ∧ cs.size = 64 ∧ ∀ c : Nat, c < 64 → cs[c]? = some (.bool (W c))
set_option maxRecDepth 100000 in
theorem WC.cell {w : World} {g : Nat} {W : Int → Bool} (h : WC w g W) (c : Nat) (hc : c < 64) : w.cell? ⟨g, c, none⟩ = some (.bool (W c)) ∧ w.frozen? ⟨g, c, none⟩ = false := by
  obtain ⟨cs, h1, _, h3⟩ := h
  exact ⟨by rw [cell_of_row _ _ c cs _ (0, 0) h1]; exact h3 c hc, frozen_of_row _ _ c cs _ h1⟩
set_option maxRecDepth 100000 in
theorem WC.lt {w : World} {g : Nat} {W : Int → Bool} (h : WC w g W) : g < w.heap.size := by
  obtain ⟨cs, h1, _⟩ := h
  exact (Array.getElem?_eq_some_iff.1 h1).1
set_option maxRecDepth 100000 in
theorem WC.below {w w' : World} {g : Nat} {W : Int → Bool} (h : WC w g W) (hb : Below w.heap.size w w') : WC w' g W := by
  have hlt := h.lt
  obtain ⟨cs, h1, h2⟩ := h
  exact ⟨cs, (hb.block g hlt).trans h1, h2⟩
set_option maxRecDepth 100000 in
theorem WC.set {w : World} {g : Nat} {W W' : Int → Bool} (h : WC w g W) (c : Nat) (hc : c < 64) (k : Bool) (hW : ∀ d : Int, W' d = if d = (c : Int) then k else W d) : WC (w.setCell ⟨g, c, none⟩ (.bool k)) g W' := by
  obtain ⟨cs, h1, h2, h3⟩ := h
  refine ⟨cs.setIfInBounds c (.bool k), heap_setCell_same w g c cs _ _ h1, by simp [h2], fun d hd => ?_⟩
  rw [Array.getElem?_setIfInBounds, hW d]
  by_cases e : c = d
  · subst e; rw [if_pos rfl, if_pos (by omega), if_pos rfl]
  · rw [if_neg e, if_neg (by omega)]; exact h3 d hd
set_option maxRecDepth 100000 in
theorem wc_get (c : Nat) (hc : c < 64) : (#[.bool false, .bool false, .bool false, .bool false, .bool false, .bool false, .bool false, .bool false, .bool false, .bool false, .bool false, .bool false, .bool false, .bool false, .bool false, .bool false, .bool false, .bool false, .bool false, .bool false, .bool false, .bool false, .bool false, .bool false, .bool false, .bool false, .bool false, .bool false, .bool false, .bool false, .bool false, .bool false, .bool false, .bool false, .bool false, .bool false, .bool false, .bool false, .bool false, .bool false, .bool false, .bool false, .bool false, .bool false, .bool false, .bool false, .bool false, .bool false, .bool false, .bool false, .bool false, .bool false, .bool false, .bool false, .bool false, .bool false, .bool false, .bool false, .bool false, .bool false, .bool false, .bool false, .bool false, .bool false] : Array Value)[c]? = some (.bool false) := by
  rw [show (#[.bool false, .bool false, .bool false, .bool false, .bool false, .bool false, .bool false, .bool false, .bool false, .bool false, .bool false, .bool false, .bool false, .bool false, .bool false, .bool false, .bool false, .bool false, .bool false, .bool false, .bool false, .bool false, .bool false, .bool false, .bool false, .bool false, .bool false, .bool false, .bool false, .bool false, .bool false, .bool false, .bool false, .bool false, .bool false, .bool false, .bool false, .bool false, .bool false, .bool false, .bool false, .bool false, .bool false, .bool false, .bool false, .bool false, .bool false, .bool false, .bool false, .bool false, .bool false, .bool false, .bool false, .bool false, .bool false, .bool false, .bool false, .bool false, .bool false, .bool false, .bool false, .bool false, .bool false, .bool false] : Array Value) = Array.replicate 64 (.bool false) from rfl, Array.getElem?_replicate, if_pos hc]
set_option maxRecDepth 100000 in
theorem wc_new (w : World) : WC (w.alloc (.cells #[.bool false, .bool false, .bool false, .bool false, .bool false, .bool false, .bool false, .bool false, .bool false, .bool false, .bool false, .bool false, .bool false, .bool false, .bool false, .bool false, .bool false, .bool false, .bool false, .bool false, .bool false, .bool false, .bool false, .bool false, .bool false, .bool false, .bool false, .bool false, .bool false, .bool false, .bool false, .bool false, .bool false, .bool false, .bool false, .bool false, .bool false, .bool false, .bool false, .bool false, .bool false, .bool false, .bool false, .bool false, .bool false, .bool false, .bool false, .bool false, .bool false, .bool false, .bool false, .bool false, .bool false, .bool false, .bool false, .bool false, .bool false, .bool false, .bool false, .bool false, .bool false, .bool false, .bool false, .bool false] 117)) w.heap.size (fun _ => false) :=
  ⟨_, heap_alloc_new w _, rfl, fun c hc => wc_get c hc⟩
set_option maxRecDepth 100000 in
theorem take_iv (C : List Int) (m : Nat) (h : m < C.length) : C.take (m + 1) = C.take m ++ [C.getD m 0] := by
  rw [List.take_add_one, List.getElem?_eq_getElem h, List.getD_eq_getElem?_getD, List.getElem?_eq_getElem h]; rfl
set_option maxRecDepth 100000 in
theorem ordA_bad {m : Nat} {o : List Int} {i : Nat} (hi : i < o.length) (h : okN m o i = false) : ordA m o = false := by
  unfold ordA
  rw [List.all_eq_false]
  exact ⟨i, List.mem_range.2 hi, by rw [h]; decide⟩
set_option maxRecDepth 100000 in
theorem all_snoc {p : Nat → Bool} {m : Nat} (h : (List.range m).all p = true) (h2 : p m = true) : (List.range (m + 1)).all p = true := by
  rw [List.range_succ, List.all_append, h, Bool.true_and]; simp [h2]
set_option maxHeartbeats 4000000 in
set_option maxRecDepth 100000 in
theorem once_any (a : Option Addr) (len cap n : Nat) (o : List Int) (w : World) (h : Ivs w a len cap o) (hn : n ≤ 64) :
    Calls Try.prog 44 #[.slice a len cap, .int .i64 n] w fun e w' => e = .returned (.bool (ordA n o)) ∧ Below w.heap.size w w' := by
  have H := Bx.mk h
  have HLEN : Bx (o.length = len) := ⟨h.len_eq⟩
  have hm := Nat.le_trans h.le_cap h.cap_le
  unfold maxLen at hm
  obtain ⟨gw, HGW⟩ : ∃ gw, Bx (gw = w.heap.size) := ⟨_, ⟨rfl⟩⟩
  have HW0 := Bx.mk (wc_new w)
  rw [← HGW.out] at HW0
  have HB0 : Bx (Below w.heap.size w (w.alloc (.cells #[.bool false, .bool false, .bool false, .bool false, .bool false, .bool false, .bool false, .bool false, .bool false, .bool false, .bool false, .bool false, .bool false, .bool false, .bool false, .bool false, .bool false, .bool false, .bool false, .bool false, .bool false, .bool false, .bool false, .bool false, .bool false, .bool false, .bool false, .bool false, .bool false, .bool false, .bool false, .bool false, .bool false, .bool false, .bool false, .bool false, .bool false, .bool false, .bool false, .bool false, .bool false, .bool false, .bool false, .bool false, .bool false, .bool false, .bool false, .bool false, .bool false, .bool false, .bool false, .bool false, .bool false, .bool false, .bool false, .bool false, .bool false, .bool false, .bool false, .bool false, .bool false, .bool false, .bool false, .bool false] 117))) := ⟨(Below.refl _ _).alloc (Nat.le_refl _) _⟩
  clear h
  go_enter Try.func44, Try.ntmps44
  go_wp2_with fail
  rw [← HGW.out]
  generalize w.alloc (.cells #[.bool false, .bool false, .bool false, .bool false, .bool false, .bool false, .bool false, .bool false, .bool false, .bool false, .bool false, .bool false, .bool false, .bool false, .bool false, .bool false, .bool false, .bool false, .bool false, .bool false, .bool false, .bool false, .bool false, .bool false, .bool false, .bool false, .bool false, .bool false, .bool false, .bool false, .bool false, .bool false, .bool false, .bool false, .bool false, .bool false, .bool false, .bool false, .bool false, .bool false, .bool false, .bool false, .bool false, .bool false, .bool false, .bool false, .bool false, .bool false, .bool false, .bool false, .bool false, .bool false, .bool false, .bool false, .bool false, .bool false, .bool false, .bool false, .bool false, .bool false, .bool false, .bool false, .bool false, .bool false] 117) = w0 at HW0 HB0 ⊢
  go_loopw [10] (fun i wr => ∃ m : Nat, m ≤ len ∧ i = .int .i64 m ∧ Bx ((List.range m).all (okN n o) = true) ∧ Bx (WC wr gw (fun d => (o.take m).contains d)) ∧ Bx (Below w.heap.size w wr)) (fun i _ => len - (intOf i).toNat)
  case atStart => exact ⟨0, Nat.zero_le _, rfl, ⟨rfl⟩, ⟨HW0.out⟩, HB0⟩
  case round =>
    clear HW0 HB0
    obtain ⟨m, hml, rfl, HOK, HW, HB⟩ := hrel
    by_cases hlt : m < len
    · have hkI : (m : Int) < (len : Int) := by omega
      have hmL : m < o.length := by rw [HLEN.out]; exact hlt
      obtain ⟨b, off, rfl, _, x0⟩ := (H.out.below HB.out).iv m hlt 0
      have HBAD : Bx (okN n o m = false → ordA n o = false) := ⟨ordA_bad hmL⟩
      have HOKN : Bx (okN n o m = (decide (0 ≤ o.getD m 0) && decide (o.getD m 0 < (n : Int)) && !(o.take m).contains (o.getD m 0))) := ⟨rfl⟩
      have HTK : Bx (o.take (m + 1) = o.take m ++ [o.getD m 0]) := ⟨take_iv o m hmL⟩
      generalize o.getD m 0 = x at x0 HOKN HTK
      by_cases hx1 : x < 0
      · have HF : Bx (ordA n o = false) := ⟨HBAD.out (by rw [HOKN.out, decide_eq_false (by omega)]; rfl)⟩
        have hd1 : decide (x < 0) = true := by simpa using hx1
        go_wp2_with fail
        go_ret
        exact ⟨by rw [HF.out]; rfl, HB.out⟩
      · obtain ⟨c, rfl⟩ : ∃ c : Nat, x = c := ⟨x.toNat, by omega⟩
        by_cases hx2 : n ≤ c
        · have HF : Bx (ordA n o = false) := ⟨HBAD.out (by rw [HOKN.out, decide_eq_false (show ¬ ((c : Int) < (n : Int)) by omega), Bool.and_false]; rfl)⟩
          have hx3 : (n : Int) ≤ (c : Int) := by omega
          clear hx1
          go_wp2_with fail
          go_ret
          exact ⟨by rw [HF.out]; rfl, HB.out⟩
        · have hx3 : ¬ (n : Int) ≤ (c : Int) := by omega
          have hd3 : decide (n ≤ c) = false := by simpa using hx2
          obtain ⟨z0, z1⟩ := HW.out.cell c (by omega)
          have hcI : (c : Int) < 64 := by omega
          try simp only at z0
          cases hst : (o.take m).contains (c : Int) with
          | true =>
            rw [hst] at z0
            have HF : Bx (ordA n o = false) := ⟨HBAD.out (by rw [HOKN.out, hst]; simp)⟩
            clear hst hx1
            go_wp2_with fail
            go_ret
            exact ⟨by rw [HF.out]; rfl, HB.out⟩
          | false =>
            rw [hst] at z0
            have HOK2 : Bx ((List.range (m + 1)).all (okN n o) = true) := ⟨all_snoc HOK.out (by rw [HOKN.out, hst, decide_eq_true (show (0 : Int) ≤ (c : Int) by omega), decide_eq_true (show (c : Int) < (n : Int) by omega)]; rfl)⟩
            have HW2 : Bx (WC (wr.setCell ⟨gw, c, none⟩ (.bool true)) gw (fun d => (o.take (m + 1)).contains d)) := ⟨HW.out.set c (by omega) true (fun d => by
              rw [HTK.out, List.contains_eq_mem, List.contains_eq_mem]
              by_cases e : d = (c : Int)
              · rw [if_pos e]; simp [e]
              · rw [if_neg e]; simp [e])⟩
            have HB2 : Bx (Below w.heap.size w (wr.setCell ⟨gw, c, none⟩ (.bool true))) := ⟨HB.out.setCell (p := ⟨gw, c, none⟩) (by rw [HGW.out]; exact Nat.le_refl _) _⟩
            clear hst hx1 HOKN HBAD HTK
            go_wp2_with fail
            go_roundw
            case rel => exact ⟨m + 1, by omega, by go_num, HOK2, HW2, HB2⟩
            case measure => simp [intOf]; omega
    · have hkI : ¬ (m : Int) < (len : Int) := by omega
      have HF : Bx (ordA n o = true) := ⟨by
        have hml2 : m = o.length := by rw [HLEN.out]; omega
        unfold ordA; rw [← hml2]; exact HOK.out⟩
      go_wp2_with fail
      go_ret
      exact ⟨by rw [HF.out]; rfl, HB.out⟩
end Go.Proofs.Ytbjeeefkbmdmfaa
