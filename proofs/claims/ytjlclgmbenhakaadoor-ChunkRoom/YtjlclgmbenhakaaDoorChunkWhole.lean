/- What Whole answers. -/
import Derived.Test.YtjlclgmbenhakaaDoorChunkTake
namespace Go.Proofs.YtjlclgmbenhakaaDoor
open Go.RowKit
set_option linter.unusedVariables false

/-- what Whole answers: what is said, how many bytes, the error -/
def whV (x : Int) (l : List Int) : List Int × Nat × Int := if x < 0 ∨ 2048 < x then ([], 0, 2) else runW x.toNat ⟨0, 0, []⟩ l 0
set_option maxRecDepth 100000 in
theorem drop_hd (l : List Int) (k : Nat) (h : k < l.length) : l.drop k = l.getD k 0 :: l.drop (k + 1) := by
  rw [List.getD_eq_getElem?_getD, List.getElem?_eq_getElem h]; exact List.drop_eq_getElem_cons h
set_option maxRecDepth 100000 in
theorem run_byt (most : Nat) : ∀ (l : List Int) (s : CS) (k : Nat), Byt l → Byt s.body → Byt (runW most s l k).1
  | [], _, _, _, _ => Byt.nil
  | b :: r, s, k, hl, hs => by
    have hb : 0 ≤ b ∧ b ≤ 255 := hl b (by simp)
    have hr : Byt r := fun c hc => hl c (by simp [hc])
    have hs2 : Byt (stp most s b).1.body := by
      obtain ⟨ph, n, body⟩ := s
      by_cases h4 : ph = 4
      · subst h4
        have h9 : Byt (body ++ [b]) := Byt.append (l := body) hs (Byt.cons hb Byt.nil)
        show Byt (if n = 1 then ((⟨5, 0, body ++ [b]⟩, 0) : CS × Int) else (⟨4, n - 1, body ++ [b]⟩, 0)).1.body
        split <;> exact h9
      · have : (stp most ⟨ph, n, body⟩ b).1.body = body := by
          unfold Go.Proofs.YtjlclgmbenhakaaDoor.stp
          split <;> first | (exact absurd rfl h4) | skip
          all_goals (repeat' split)
          all_goals first | rfl | simp_all
        rw [this]; exact hs
    rw [runW_cons]
    split
    · exact Byt.nil
    · split
      · exact hs2
      · exact run_byt most r _ _ hr hs2
/-- the state of the loop -/
structure WL (w wr : World) (g : Nat) (m : Nat) (own : Nat → Prop) (s : CS) (l : List Int) (k : Nat) (T : List Int × Nat × Int) : Prop where
  rd : Rd wr g own m s
  low : ∀ k, own k → w.heap.size ≤ k
  bel : Below w.heap.size w wr
  run : runW m s (l.drop k) k = T
set_option maxRecDepth 100000 in
set_option maxHeartbeats 1000000 in
theorem cwhole_any (a : Option Addr) (len cap : Nat) (l : List Int) (x : Int) (w : World) (h : Bts w a len cap l) :
    Calls Tryd.prog 13 #[.slice a len cap, .int .i64 x] w fun e w' => ∃ v, e = .returned (.tuple #[v, .int .i64 ((whV x l).2.1 : Int), .int .i64 (whV x l).2.2]) ∧ w'.ownsRow w.heap.size 5 1 v (whV x l).1.length (bv (whV x l).1) ∧ Below w.heap.size w w' := by
  by_cases hx : x < 0 ∨ 2048 < x
  · have HV : Bx (whV x l = ([], 0, 2)) := ⟨by unfold whV; rw [if_pos hx]⟩
    go_enter Tryd.func13, Tryd.ntmps13
    go_wp2_with fail
    refine (cnew_bad x _ hx).mono ?_
    rintro e w' ⟨rfl, rfl⟩
    clear hx
    go_wp2
    go_ret3
    exact ⟨_, by rw [HV.out]; rfl, by rw [HV.out]; exact World.ownsRow_nil _ _ _ _, Below.refl _ _⟩
  · obtain ⟨m, hm⟩ : ∃ m : Nat, x = (m : Int) := ⟨x.toNat, by omega⟩
    have hm2 : m ≤ 2048 := by omega
    have HV : Bx (whV x l = runW m ⟨0, 0, []⟩ l 0) := ⟨by unfold whV; rw [if_neg hx, hm]; rfl⟩
    generalize whV x l = T at HV
    have HM := Bx.mk hm
    have hl : Hid (l.length = len) := h.len_eq
    have hmx := Nat.le_trans h.le_cap h.cap_le
    unfold maxLen at hmx
    have HBY : Hid (Byt l) := h.byt
    have H := Bx.mk h
    clear hx hm h
    go_enter Tryd.func13, Tryd.ntmps13
    go_wp2_with fail
    refine (cnew_any x m _ HM.out hm2).mono ?_
    rintro e w1 ⟨rfl, hr1, hb1⟩
    have HW1 : Bx (WL w w1 w.heap.size m (fun k => k = w.heap.size) ⟨0, 0, []⟩ l 0 T) := ⟨hr1, fun k hk => by rw [hk]; exact Nat.le_refl _, hb1, HV.out.symm⟩
    obtain ⟨g, HG⟩ : ∃ g, Bx (g = w.heap.size) := ⟨_, ⟨rfl⟩⟩
    rw [← HG.out] at HW1
    have HB1 := Bx.mk hb1
    clear hr1 hb1 HV
    rw [← HG.out]
    go_wp2
    go_loopw [23] (fun i wr => ∃ (k : Nat) (own : Nat → Prop) (s : CS), k ≤ len ∧ i = .int .i64 k ∧ Bx (WL w wr g m own s l k T)) (fun i _ => len - (intOf i).toNat)
    case atStart => exact ⟨0, _, _, Nat.zero_le _, rfl, by rw [HG.out] at HW1 ⊢; exact HW1⟩
    case round =>
      clear HW1
      obtain ⟨k, own, s, hk, rfl, HS⟩ := hrel
      by_cases hlt : k < len
      · have hkI : (k : Int) < (len : Int) := by omega
        have hbt := H.out.below HS.out.bel
        obtain ⟨b, off, rfl, _, hc⟩ := hbt.spot (by omega)
        have hcell := hc k hlt
        have hbd := HBY.out.getD k
        have HR : Bx (runW m s (l.getD k 0 :: l.drop (k + 1)) k = T) := ⟨by rw [← drop_hd l k (by rw [hl.out]; exact hlt)]; exact HS.out.run⟩
        generalize l.getD k 0 = C at hcell hbd HR
        clear hc hbt
        go_wp2_with fail
        refine (cput_any g own m s C _ HS.out.rd hbd).mono ?_
        rintro e w2 ⟨rfl, own2, hr2, hd2⟩
        have HB2 : Bx (Below w.heap.size w w2) := ⟨HS.out.bel.trans (hd2.kept.low HS.out.low HS.out.bel.size)⟩
        have HL2 : Bx (∀ k, own2 k → w.heap.size ≤ k) := ⟨fun j hj => by
          rcases hd2.new j hj with h1 | h1
          · exact HS.out.low j h1
          · have := HS.out.bel.size; omega⟩
        clear hd2
        by_cases he : (stp m s C).2 = 0
        · have hp10 : ¬ 10 ≤ s.ph := fun hp => by rw [stp_over C hp] at he; simp at he
          rw [ptS_ok hp10 he] at hr2
          have HR2 := Bx.mk hr2
          clear hr2
          by_cases hd : (stp m s C).1.ph = 10
          · have HT : Bx (T = ((stp m s C).1.body, k + 1, 0)) := ⟨by rw [← HR.out, runW_cons, if_neg (by rw [he]; simp), if_pos hd]⟩
            have hD : ptD m s C = true := by unfold ptD; simp [he, hd]; omega
            rw [hD, he]
            clear hD he hd hp10 HR
            generalize (stp m s C).1 = s2 at HR2 HT
            go_wp2_with fail
            refine (cbody_any g own2 m s2 _ HR2.out).mono ?_
            rintro e w3 ⟨v3, rfl, ho3, hb3⟩
            have HO3 := Bx.mk (owns_base ho3 HB2.out.size)
            have HB3 := Bx.mk (bstep HB2.out hb3)
            clear ho3 hb3
            go_wp2
            go_ret3
            exact ⟨v3, by rw [HT.out]; rfl, by rw [HT.out]; exact HO3.out, HB3.out⟩
          · have HT : Bx (runW m (stp m s C).1 (l.drop (k + 1)) (k + 1) = T) := ⟨by rw [← HR.out, runW_cons, if_neg (by rw [he]; simp), if_neg hd]⟩
            have hD : ptD m s C = false := by unfold ptD; simp [he, hd]
            rw [hD, he]
            clear hD he hd hp10 HR
            generalize (stp m s C).1 = s2 at HR2 HT
            go_wp2
            go_roundw
            case rel => exact ⟨k + 1, own2, s2, by omega, by go_num, ⟨HR2.out, HL2.out, HB2.out, HT.out⟩⟩
            case measure => simp [intOf]; omega
        · have HT : Bx (T = ([], 0, (stp m s C).2)) := ⟨by rw [← HR.out, runW_cons, if_pos he]⟩
          have hD : ptD m s C = false := by unfold ptD; simp [he]
          rw [hD]
          generalize (stp m s C).2 = E at HT he
          have hne : (E != 0) = true := by simpa using he
          clear hD he HR hr2
          go_wp2
          go_ret3
          exact ⟨_, by rw [HT.out]; rfl, by rw [HT.out]; exact World.ownsRow_nil _ _ _ _, HB2.out⟩
      · have hge : ¬ (k : Int) < (len : Int) := by omega
        have HT : Bx (T = ([], 0, 3)) := ⟨by rw [← HS.out.run, List.drop_of_length_le (by rw [hl.out]; omega)]; rfl⟩
        go_wp2
        go_ret3
        exact ⟨_, by rw [HT.out]; rfl, by rw [HT.out]; exact World.ownsRow_nil _ _ _ _, HS.out.bel⟩
end Go.Proofs.YtjlclgmbenhakaaDoor
