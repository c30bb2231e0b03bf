/- All orders of some places (the law's own): whether one is taken. -/
import Derived.Test.YtbjeeefkbmdmfaaOCheck
import Derived.Test.YtbjeeefkbmdmfaaLnc
import Derived.Laws.AppendOwnNone
namespace Go.Proofs.Ytbjeeefkbmdmfaa
open Go.RowKit
set_option linter.unusedVariables false

/-- it goes on to an order -/
def OrX (l : List Ic) (f : Int) (ops : List Opr) (o : List Nat) : Prop := ∃ r, OrdN l f ops (o ++ r)
set_option maxRecDepth 100000 in
theorem orx_step {l : List Ic} {f : Int} {ops : List Opr} {o : List Nat} (h : ¬ OrdN l f ops o) : OrX l f ops o ↔ ∃ i, i < ops.length ∧ ¬ i ∈ o ∧ OrX l f ops (o ++ [i]) := by
  constructor
  · rintro ⟨r, hr⟩
    cases r with
    | nil => rw [List.append_nil] at hr; exact absurd hr h
    | cons i r =>
      refine ⟨i, hr.lt i (by simp), fun hi => ?_, r, by rw [List.append_assoc]; exact hr⟩
      have := (List.nodup_append.1 hr.nod).2.2 i hi i (by simp)
      exact this rfl
  · rintro ⟨i, _, _, r, hr⟩
    exact ⟨i :: r, by rw [List.append_assoc] at hr; exact hr⟩
set_option maxRecDepth 100000 in
theorem ord_is {l : List Ic} {f : Int} {ops : List Opr} {o : List Nat} (h1 : (thr l).2.2 = 0) (h2 : 0 ≤ f ∧ f ≤ 10000) (h3 : ops.length ≤ 64) : ordE l f ops (nI o) = 0 ↔ OrdN l f ops o :=
  ordE_ok.trans (ord_nat.trans ⟨fun h => h.2.2.2, fun h => ⟨h1, h2, h3, h⟩⟩)
/-- how many places are left -/
def rkO (n : Nat) (o : List Nat) : Nat := ((List.range n).filter (fun i => !o.contains i)).length
set_option maxRecDepth 100000 in
theorem rkO_snoc {n : Nat} {o : List Nat} {i : Nat} (hi : i < n) (h : ¬ i ∈ o) : rkO n (o ++ [i]) < rkO n o := by
  refine filt_lt (i := i) (by simpa using h) (by simp) _ (fun j _ hj => ?_) (List.mem_range.2 hi)
  simp at hj ⊢
  exact hj.1
set_option maxRecDepth 100000 in
theorem rkO_nil (n : Nat) : rkO n [] ≤ n := Nat.le_trans (List.length_filter_le _ _) (by rw [List.length_range]; exact Nat.le_refl _)
set_option maxRecDepth 100000 in
theorem nI_snoc (o : List Nat) (k : Nat) : nI (o ++ [k]) = nI o ++ [(k : Int)] := by simp [nI]
/-- what orders answers -/
def OrQ (l : List Ic) (f : Int) (ops : List Opr) (o : List Nat) (w : World) (e : Ending) (w' : World) : Prop := ∃ b, e = .returned (.bool b) ∧ (b = true ↔ OrX l f ops o) ∧ Below w.heap.size w w'
set_option maxRecDepth 100000 in
theorem nI_k {o : List Nat} {n : Nat} (h : ∀ i, i ∈ o → i < n) : ∀ j, j < o.length → ∃ p : Nat, (nI o).getD j 0 = (p : Int) ∧ p = o.getD j 0 := fun j _ => ⟨_, nI_get o j, rfl⟩
set_option maxRecDepth 100000 in
theorem nI_has {o : List Nat} {i j : Nat} (hj : j < o.length) : (i : Int) ∈ (nI o).take (j + 1) ↔ (i : Int) ∈ (nI o).take j ∨ (nI o).getD j 0 = (i : Int) := by
  rw [take_iv (nI o) j (by rw [nI_len]; exact hj), List.mem_append]
  simp [eq_comm]
set_option maxRecDepth 100000 in
theorem Try.infoI19 : (Try.prog.info? 3).map (fun i => (i.zero, i.size, i.bytes)) = some (some (.int .i64 0), 1, 8) := by kernel_rfl
set_option maxHeartbeats 4000000 in
set_option maxRecDepth 100000 in
theorem orders_any (aL : Option Addr) (nL cL : Nat) (l : List Ic) (f : Int) (aO : Option Addr) (n cO : Nat) (ops : List Opr) (hl : IcsK l) (hok : (thr l).2.2 = 0) (hf : 0 ≤ f ∧ f ≤ 10000) (hO : OrsK ops) (hn : n ≤ 64) (mm : Nat) :
    ∀ (aR : Option Addr) (cR : Nat) (o : List Nat) (w : World), rkO n o ≤ mm → o.length + rkO n o ≤ n → Ics w aL nL cL l → Ors w aO n cO ops → Ivs w aR o.length cR (nI o) →
    Calls Try.prog 26 #[.slice aL nL cL, .int .i64 f, .slice aO n cO, .slice aR o.length cR] w (OrQ l f ops o w) := by
  induction mm using Nat.strongRecOn with
  | ind mm ih =>
  intro aR cR o w hrk hon hIc hOr hIv
  have IH := Bx.mk ih
  have HL := Bx.mk hl
  have HOK := Bx.mk hok
  have HF := Bx.mk hf
  have HO := Bx.mk hO
  have HN64 := Bx.mk hn
  have HRK := Bx.mk hrk
  have HON := Bx.mk hon
  have HLEN : Bx (ops.length = n) := ⟨hOr.len_eq⟩
  have HIC := Bx.mk hIc
  have HOR := Bx.mk hOr
  have HIV := Bx.mk hIv
  have HVF : Bx (V64 f) := ⟨by unfold V64; omega⟩
  have HIS : Bx (ordE l f ops (nI o) = 0 ↔ OrdN l f ops o) := ⟨ord_is hok hf (by rw [HLEN.out]; exact hn)⟩
  clear ih hl hok hf hO hn hrk hon hIc hOr hIv
  go_enter Try.func26, Try.ntmps26
  go_wp2_with fail
  refine (check17_any aL aO aR nL cL n cO o.length cR l f ops (nI o) w HIC.out HL.out HVF.out HOR.out HO.out HIV.out).mono ?_
  rintro e w1 ⟨rfl, hb1⟩
  have HB1 := Bx.mk hb1
  clear hb1
  by_cases hz : ordE l f ops (nI o) = 0
  · have HX : Bx (OrX l f ops o) := ⟨[], by rw [List.append_nil]; exact HIS.out.1 hz⟩
    rw [hz]
    clear hz
    go_wp2_with fail
    go_ret
    exact ⟨true, rfl, ⟨fun _ => HX.out, fun _ => rfl⟩, HB1.out⟩
  · have HNO : Bx (¬ OrdN l f ops o) := ⟨fun h => hz (HIS.out.2 h)⟩
    have hq : (ordE l f ops (nI o) == 0) = false := beq_false_of_ne hz
    generalize ordE l f ops (nI o) = er at hq ⊢
    clear hz HIS
    have hn64 := HN64.out
    have hol : o.length ≤ 64 := by have := HON.out; omega
    go_wp2_with fail
    go_loopw [9] (fun i wr => ∃ k : Nat, k ≤ n ∧ i = .int .i64 k ∧ Bx (∀ i, i < k → ¬ i ∈ o → ¬ OrX l f ops (o ++ [i])) ∧ Bx (Below w.heap.size w wr)) (fun i _ => n - (intOf i).toNat)
    case atStart => exact ⟨0, Nat.zero_le _, rfl, ⟨fun i hi => absurd hi (Nat.not_lt_zero _)⟩, HB1⟩
    case round =>
      clear HB1 hq
      obtain ⟨k, hkn, rfl, HA, HB⟩ := hrel
      by_cases hlt : k < n
      · have hkI : (k : Int) < (n : Int) := by omega
        go_wp2_with fail
        go_loopw [10, 11] (fun b j wr => ∃ m : Nat, m ≤ o.length ∧ j = .int .i64 m ∧ b = .bool (decide ((k : Int) ∈ (nI o).take m)) ∧ Bx (Below w.heap.size w wr)) (fun _ j _ => o.length - (intOf j).toNat)
        case atStart => exact ⟨0, Nat.zero_le _, rfl, by simp, HB⟩
        case round =>
          clear HB
          obtain ⟨j, hjo, rfl, rfl, HB⟩ := hrel
          obtain ⟨b0, HB0⟩ : ∃ b0, Bx (decide ((k : Int) ∈ (nI o).take j) = b0) := ⟨_, ⟨rfl⟩⟩
          rw [HB0.out]
          by_cases hjl : j < o.length
          · have hjI : (j : Int) < ((o.length : Nat) : Int) := by omega
            have HSN := Bx.mk (nI_has (i := k) hjl)
            obtain ⟨bR, oR, rfl, _, x0⟩ := (HIV.out.below HB.out).iv j hjl 0
            generalize (nI o).getD j 0 = x at x0 HSN
            cases b0 with
            | true =>
              have HNX : Bx (decide ((k : Int) ∈ (nI o).take (j + 1)) = true) := ⟨decide_eq_true (HSN.out.2 (.inl (of_decide_eq_true HB0.out)))⟩
              go_wp2_with fail
              go_roundw
              case rel => exact ⟨j + 1, by omega, by go_num, by rw [HNX.out], HB⟩
              case measure => simp [intOf]; omega
            | false =>
              by_cases hxk : x = (k : Int)
              · have HNX : Bx (decide ((k : Int) ∈ (nI o).take (j + 1)) = true) := ⟨decide_eq_true (HSN.out.2 (.inr hxk))⟩
                have hq : (x == (k : Int)) = true := by simpa using hxk
                clear hxk
                go_wp2_with fail
                go_roundw
                case rel => exact ⟨j + 1, by omega, by go_num, by rw [HNX.out], HB⟩
                case measure => simp [intOf]; omega
              · have HNX : Bx (decide ((k : Int) ∈ (nI o).take (j + 1)) = false) := ⟨decide_eq_false (fun h => by rcases HSN.out.1 h with h | h; exact of_decide_eq_false HB0.out h; exact hxk h)⟩
                have hq : (x == (k : Int)) = false := by simpa using hxk
                clear hxk
                go_wp2_with fail
                go_roundw
                case rel => exact ⟨j + 1, by omega, by go_num, by rw [HNX.out], HB⟩
                case measure => simp [intOf]; omega
          · have hjI : ¬ (j : Int) < ((o.length : Nat) : Int) := by omega
            have HKM : Bx ((k : Int) ∈ (nI o).take j ↔ k ∈ o) := ⟨by rw [List.take_of_length_le (by rw [nI_len]; omega)]; exact nI_mem⟩
            cases b0 with
            | true =>
              have HA2 : Bx (∀ i, i < k + 1 → ¬ i ∈ o → ¬ OrX l f ops (o ++ [i])) := ⟨fun i hi ho => by
                by_cases e : i = k
                · subst e; exact absurd (HKM.out.1 (of_decide_eq_true HB0.out)) ho
                · exact HA.out i (by omega) ho⟩
              go_wp2_with fail
              go_roundw
              case rel => exact ⟨k + 1, by omega, by go_num, HA2, HB⟩
              case measure => simp [intOf]; omega
            | false =>
              have HKO : Bx (¬ k ∈ o) := ⟨fun h => of_decide_eq_false HB0.out (HKM.out.2 h)⟩
              obtain ⟨wj, hwj⟩ : ∃ wj, wj = wr := ⟨_, rfl⟩
              subst hwj
              obtain ⟨oq, HOQ⟩ : ∃ oq, Bx (o ++ [k] = oq) := ⟨_, ⟨rfl⟩⟩
              have HOL : Bx (oq.length = o.length + 1) := ⟨by rw [← HOQ.out]; simp⟩
              have HOI : Bx ((nI oq).flatMap ivC = (nI o).flatMap ivC ++ [.int .i64 (k : Int)]) := ⟨by rw [← HOQ.out, nI_snoc, List.flatMap_append]; rfl⟩
              have HIJ := Bx.mk (HIV.out.below HB.out)
              go_upto_region 13 with fail
              go_cut [12] from 41 to 46 (fun s12 wx => ∃ aQ cQ, s12 = .slice aQ oq.length cQ ∧ Bx (Ivs wx aQ oq.length cQ (nI oq) ∧ Below wj.heap.size wj wx))
              case first =>
                clear IH HA
                obtain ⟨i0, hi, hz0, hz1, hz2⟩ := info_parts Try.infoI19
                cases aR with
                | none =>
                  have hc0 := HIJ.out.nil rfl
                  have ho0 : o.length = 0 := by have := HIJ.out.le_cap; omega
                  obtain rfl : cR = 0 := hc0
                  obtain rfl : o = [] := List.eq_nil_of_length_eq_zero ho0
                  have HNW2 := Bx.mk (World.news_of_block (heap_alloc_new wj (.cells #[.int .i64 (k : Int)] 3)))
                  have HBA : Bx (Below wj.heap.size wj (wj.alloc (.cells #[.int .i64 (k : Int)] 3))) := ⟨(Below.refl _ _).alloc (Nat.le_refl _) _⟩
                  have HSZ := Bx.mk HBA.out.size
                  clear ho0
                  go_wp2_with (at_builtin; first | refine wpList_append_own_none rfl _ _ 37 rfl wj.heap.size 3 i0 1 Try.underlying37 hi _ 0 [] rfl (World.ownsRow_nil _ _ _ _) rfl ?_ | refine wpList_append_own _ rfl _ _ 37 rfl wj.heap.size 3 i0 (.int .i64 0) 1 8 Try.underlying37 hi hz0 hz1 hz2 rfl (by decide) _ 0 [] rfl (World.ownsRow_nil _ _ _ _) ⟨wj.heap.size, 0, none⟩ 1 1 [.int .i64 (k : Int)] rfl rfl HNW2.out (by simp [Value.oneCell']) (by unfold maxLen; omega) (by omega) HSZ.out ?_)
                  intro v1 w13 ho1 hg1 _
                  have ho2 : w13.ownsRow wj.heap.size 3 1 v1 oq.length ((nI oq).flatMap ivC) := by rw [HOI.out, HOL.out]; simpa [nI] using ho1
                  obtain ⟨aQ, cQ, rfl, hQ⟩ := Ls.of_owns ivC_len ho2 (nI_len oq)
                  have HQ1 := Bx.mk hQ
                  have HB13 := Bx.mk (HBA.out.grown hg1 HSZ.out (by intro k hk; cases hk))
                  clear ho1 ho2 hQ hg1 hi hz0 hz1 hz2
                  go_wp2_with fail
                  go_meet
                  case rel => exact ⟨aQ, cQ, rfl, ⟨HQ1.out, HB13.out⟩⟩
                | some ad =>
                  have HFL : Bx (((nI o).flatMap ivC).length = o.length * 1) := ⟨by rw [flatE_len ivC_len, nI_len]⟩
                  have HCE := Bx.mk (HIJ.out.cells ivC_len rfl)
                  have HON1 := Bx.mk (flatE_one ivC_one (nI o))
                  go_wp2_with (at_builtin; refine wpList_append_own _ rfl _ _ 37 rfl wj.heap.size 3 i0 (.int .i64 0) 1 8 Try.underlying37 hi hz0 hz1 hz2 rfl (by decide) _ 0 [] rfl (World.ownsRow_nil _ _ _ _) ad o.length cR ((nI o).flatMap ivC) rfl HFL.out HCE.out HON1.out (by unfold maxLen; omega) (by omega) (Nat.le_refl _) ?_)
                  intro v12 w12 ho12 hg12 _
                  have ho2 : w12.ownsRow wj.heap.size 3 1 v12 o.length ((nI o).flatMap ivC) := by simpa using ho12
                  obtain ⟨a12, c12, rfl, _⟩ := Ls.of_owns ivC_len ho2 (nI_len o)
                  have hb12 : Below wj.heap.size wj w12 := (Below.refl _ _).grown hg12 (Nat.le_refl _) (by intro k hk; cases hk)
                  have hbA : Below w12.heap.size w12 (w12.alloc (.cells #[.int .i64 (k : Int)] 3)) := (Below.refl _ _).alloc (Nat.le_refl _) _
                  have HNW2 := Bx.mk (World.news_of_block (heap_alloc_new w12 (.cells #[.int .i64 (k : Int)] 3)))
                  have HOA := Bx.mk (owns_below ho2 hbA)
                  have HBA := Bx.mk (bstep hb12 hbA)
                  have HSZ := Bx.mk HBA.out.size
                  have HLO : Bx (∀ j, (Value.slice a12 o.length c12).ownBlock = some j → wj.heap.size ≤ j) := ⟨fun j e => (ho2.lt j e).1⟩
                  clear ho12 hg12 ho2 hb12 hbA HFL HCE HON1
                  go_wp2_with (at_builtin; refine wpList_append_own _ rfl _ _ 37 rfl wj.heap.size 3 i0 (.int .i64 0) 1 8 Try.underlying37 hi hz0 hz1 hz2 rfl (by decide) _ o.length ((nI o).flatMap ivC) rfl HOA.out ⟨w12.heap.size, 0, none⟩ 1 1 [.int .i64 (k : Int)] rfl rfl HNW2.out (by simp [Value.oneCell']) (by unfold maxLen; omega) (by omega) HSZ.out ?_)
                  intro v1 w13 ho1 hg1 _
                  have ho2 : w13.ownsRow wj.heap.size 3 1 v1 oq.length ((nI oq).flatMap ivC) := by rw [HOI.out, HOL.out]; exact ho1
                  obtain ⟨aQ, cQ, rfl, hQ⟩ := Ls.of_owns ivC_len ho2 (nI_len oq)
                  have HQ1 := Bx.mk hQ
                  have HB13 := Bx.mk (HBA.out.grown hg1 HSZ.out HLO.out)
                  clear ho1 ho2 hQ hg1 hi hz0 hz1 hz2
                  go_wp2_with fail
                  go_meet
                  case rel => exact ⟨aQ, cQ, rfl, ⟨HQ1.out, HB13.out⟩⟩
              case rest =>
                obtain ⟨aQ, cQ, rfl, HQ13⟩ := hcut
                obtain ⟨w13, hw13⟩ : ∃ w13, w13 = wc := ⟨_, rfl⟩
                subst hw13
                have HB13 := Bx.mk (bstep HB.out HQ13.out.2)
                have HC13 := Bx.mk (HIC.out.below HB13.out)
                have HO13 := Bx.mk (HOR.out.below HB13.out)
                have HI13 := Bx.mk HQ13.out.1
                have HRQ : Bx (rkO n oq < rkO n o) := ⟨by rw [← HOQ.out]; exact rkO_snoc hlt HKO.out⟩
                have HMM : Bx (rkO n oq < mm) := ⟨Nat.lt_of_lt_of_le HRQ.out HRK.out⟩
                have HOM : Bx (oq.length + rkO n oq ≤ n) := ⟨by have h1 := HOL.out; have h2 := HRQ.out; have h3 := HON.out; omega⟩
                clear HQ13 HIJ HOI
                go_wp2_with fail
                refine (IH.out _ HMM.out aQ cQ oq w13 (Nat.le_refl _) HOM.out HC13.out HO13.out HI13.out).mono ?_
                rintro e w14 ⟨b, rfl, hb, hb14⟩
                have HBX := Bx.mk hb
                have HB14 := Bx.mk (bstep HB13.out hb14)
                clear hb hb14
                cases b with
                | true =>
                  have HX : Bx (OrX l f ops o) := ⟨(orx_step HNO.out).2 ⟨k, by rw [HLEN.out]; exact hlt, HKO.out, by rw [HOQ.out]; exact HBX.out.1 rfl⟩⟩
                  go_wp2_with fail
                  go_ret
                  exact ⟨true, rfl, ⟨fun _ => HX.out, fun _ => rfl⟩, HB14.out⟩
                | false =>
                  have HA2 : Bx (∀ i, i < k + 1 → ¬ i ∈ o → ¬ OrX l f ops (o ++ [i])) := ⟨fun i hi ho => by
                    by_cases e : i = k
                    · subst e; rw [HOQ.out]; exact fun h => by cases HBX.out.2 h
                    · exact HA.out i (by omega) ho⟩
                  go_wp2_with fail
                  go_roundw
                  case rel => exact ⟨k + 1, by omega, by go_num, HA2, HB14⟩
                  case measure => simp [intOf]; omega
      · have hkI : ¬ (k : Int) < (n : Int) := by omega
        have HNX : Bx (¬ OrX l f ops o) := ⟨fun h => by
          obtain ⟨i, hi, ho, hx⟩ := (orx_step HNO.out).1 h
          exact HA.out i (by rw [HLEN.out] at hi; omega) ho hx⟩
        go_wp2_with fail
        go_ret
        exact ⟨false, rfl, ⟨(fun h => by cases h), (fun h => absurd h HNX.out)⟩, HB.out⟩
end Go.Proofs.Ytbjeeefkbmdmfaa
