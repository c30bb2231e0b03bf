/- Encode, the program's. -/
import Derived.Test.YtjnjokbdoendkabSEnc2
namespace Go.Proofs.Ytjnjokbdoendkab
open Go.RowKit
set_option linter.unusedVariables false

/-- what Encode answers -/
def encR (L : List Chg) : List Int := if chkL L = 0 then encL L else []
/-- the text of the first k -/
def encP (L : List Chg) (k : Nat) : List Int := varL L.length ++ (L.take k).flatMap chgL
set_option maxRecDepth 100000 in
theorem encP_step (L : List Chg) (k : Nat) (h : k < L.length) : encP L (k + 1) = encP L k ++ chgL L[k] := by
  unfold encP
  rw [List.take_succ_eq_append_getElem h, List.flatMap_append]; simp
set_option maxRecDepth 100000 in
theorem encP_all (L : List Chg) (k : Nat) (h : L.length ≤ k) : encP L k = encL L := by
  unfold encP encL
  rw [List.take_of_length_le h]
set_option maxRecDepth 100000 in
theorem encP_length {L : List Chg} (h : LOk L) (k : Nat) : (encP L k).length ≤ 70000 := by
  have h1 := flat_length (L.take k) (fun c hc => h.c c (List.mem_of_mem_take hc))
  have h2 := (varL_length L.length).2
  have := h.n2
  have h3 : (L.take k).length ≤ L.length := by rw [List.length_take]; omega
  unfold encP
  rw [List.length_append]
  omega
set_option maxRecDepth 100000 in
set_option maxHeartbeats 2000000 in
theorem encode_any (B : Nat → Prop) (ao : Option Addr) (len cap : Nat) (L : List Chg) (w : World) (h : CT B w ao len cap L) (hks : ∀ c ∈ L, c.key.size ≤ 9223372036854775807) :
    Calls Try.prog 25 #[.slice ao len cap] w fun e w' => ∃ v, e = .returned (.tuple #[v, .int .i64 (chkL L)]) ∧ w'.ownsRow w.heap.size 5 1 v (encR L).length (bv (encR L)) ∧ Below w.heap.size w w' := by
  have HL : Bx (CT B w ao len cap L) := ⟨h⟩
  have HLW : Bx (CT (fun k => k < w.heap.size) w ao len cap L) := ⟨h.low⟩
  have HKS : Bx (∀ c ∈ L, c.key.size ≤ 9223372036854775807) := ⟨hks⟩
  have HLEN : Bx (L.length = len) := ⟨h.len_eq⟩
  have hcl := h.le_cap
  have hcm := h.cap_le
  unfold maxLen at hcm
  clear h hks
  go_enter Try.func25, Try.ntmps25
  go_wp2_with fail
  refine (check_any B ao len cap L _ HL.out HKS.out).mono ?_
  rintro e w1 ⟨rfl, hb1⟩
  by_cases hY : chkL L = 0
  · have HR : Bx (encR L = encL L) := ⟨by unfold encR; rw [if_pos hY]⟩
    have HOK : Bx (LOk L) := ⟨chkL_ok hY⟩
    have hlen : len ≤ 16 := by have := HOK.out.n2; rw [HLEN.out] at this; exact this
    rw [hY]
    have HY : Bx (chkL L = 0) := ⟨hY⟩
    have gm : (len : Int) % 18446744073709551616 = len := by omega
    have HP0 : Bx (encP L 0 = varL len) := ⟨by unfold encP; rw [HLEN.out]; simp⟩
    have hs1 := hb1.size
    have HB1 : Bx (Below w.heap.size w w1) := ⟨hb1⟩
    clear hY hb1 HL
    go_wp2_with fail
    refine (var_any (len : Int) _ (by omega) (by omega)).mono ?_
    rintro e w2 ⟨v2, rfl, hown2, hb2⟩
    rw [← HP0.out] at hown2
    have hown2' := owns_base hown2 hs1
    have hbw2 := bstep HB1.out hb2
    clear hown2 HB1
    obtain ⟨a2, n2, c2, rfl⟩ := own_form hown2'
    go_wp2_with fail
    go_loopw [5, 19] (fun v i wr => ∃ k : Nat, k ≤ len ∧ i = .int .i64 k ∧ Bx (wr.ownsRow w.heap.size 5 1 v (encP L k).length (bv (encP L k))) ∧ Below w.heap.size w wr ∧ (∃ a0 n0 c0, v = .slice a0 n0 c0)) (fun _ i _ => len - (intOf i).toNat)
    case atStart => exact ⟨0, Nat.zero_le _, rfl, ⟨hown2'⟩, hbw2, _, _, _, rfl⟩
    case round =>
      clear hown2' hbw2 hb2
      obtain ⟨k, hk, rfl, HO, hbw, a0, n0, c0, rfl⟩ := hrel
      by_cases hlt : k < len
      · have hkI : (k : Int) < (len : Int) := by omega
        have hkL : k < L.length := by rw [HLEN.out]; exact hlt
        have HST : Bx (encP L (k + 1) = encP L k ++ chgL L[k]) := ⟨encP_step L k hkL⟩
        have hPl := encP_length HOK.out k
        have hck := HOK.out.c _ (List.getElem_mem hkL)
        obtain ⟨b, off, ai, ni, ci, rfl, hbl, _, h1, h2, h3, hbt, hlo⟩ := (HLW.out.stay hbw).chg k hlt
        generalize hcc : L[k] = cc at h1 h2 hbt hck HST
        obtain ⟨kk, dd, vv⟩ := cc
        simp only at h1 h2 hbt
        have hk40 := hck.k2
        have hv40 := hck.v
        have hvl := hbt.len_eq
        simp only at hk40 hv40
        have HBT : Bx (Bts wr ai ni ci vv) := ⟨hbt⟩
        have HLO2 : Bx (0 < ni → ∀ p, ai = some p → p.block < w.heap.size) := ⟨hlo⟩
        have HBW : Bx (Below w.heap.size w wr) := ⟨hbw⟩
        have hba : Bx (Below wr.heap.size wr (wr.alloc (.cells #[.string kk, .bool dd, .slice ai ni ci] 69))) := ⟨(Below.refl _ _).alloc (Nat.le_refl _) _⟩
        have hsr := hbw.size
        generalize encP L k = P at HO HST hPl
        clear hcc hbt hlo hbw hck
        go_wp2_with fail
        refine (putchange_any w.heap.size _ (.slice a0 n0 c0) P kk dd vv ai ni ci _ (owns_below HO.out hba.out) (HBT.out.below hba.out) HLO2.out (by have := hba.out.size; omega) (by omega) (by omega) (by omega)).mono ?_
        rintro e w3 ⟨v3, rfl, hown3, hb3⟩
        have hbw3 := (bstep HBW.out hba.out).trans hb3
        have HO3 : Bx (w3.ownsRow w.heap.size 5 1 v3 (encP L (k + 1)).length (bv (encP L (k + 1)))) := ⟨by rw [HST.out, List.length_append]; exact hown3⟩
        obtain ⟨a3, n3, c3, rfl⟩ := own_form hown3
        clear hown3 hb3 HO HST h1 h2 h3 HBT HLO2 HBW hba
        go_wp2_with fail
        go_roundw
        case rel => exact ⟨k + 1, by omega, by go_num, HO3, hbw3, _, _, _, rfl⟩
        case measure => simp [intOf]; omega
      · have hkI : ¬ (k : Int) < (len : Int) := by omega
        have HF : Bx (encP L k = encR L) := ⟨by rw [HR.out, encP_all L k (by rw [HLEN.out]; omega)]⟩
        rw [HF.out] at HO
        go_wp2_with fail
        go_ret2
        exact ⟨_, by rw [HY.out]; rfl, HO.out, hbw⟩
  · have HR : Bx (encR L = []) := ⟨by unfold encR; rw [if_neg hY]⟩
    have g2 : (chkL L != 0) = true := by simp [hY]
    obtain ⟨Y, HYY⟩ : ∃ Y, Bx (chkL L = Y) := ⟨_, ⟨rfl⟩⟩
    rw [HYY.out] at g2 ⊢
    clear hY
    go_wp2_with fail
    go_ret2
    exact ⟨_, by rw [HYY.out]; rfl, by rw [HR.out]; exact World.ownsRow_nil _ _ _ _, hb1⟩
end Go.Proofs.Ytjnjokbdoendkab
