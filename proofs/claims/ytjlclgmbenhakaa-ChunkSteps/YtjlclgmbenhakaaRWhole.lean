/- The document's own Whole. -/
import Derived.Test.YtjlclgmbenhakaaRSized
import Derived.Test.YtjlclgmbenhakaaChunkWhole
namespace Go.Proofs.Ytjlclgmbenhakaa
open Go.RowKit
set_option linter.unusedVariables false

set_option maxRecDepth 100000 in
theorem two_len {l : List Int} (h : twoR l = 0) : 2 ≤ l.length := by
  unfold twoR at h
  split at h
  · simp at h
  · split at h
    · simp at h
    · omega
set_option maxRecDepth 100000 in
theorem szR_ok (M : Int) : ∀ (l : List Int) (n c : Nat), (szR M l n c).2.2 = 0 → (szR M l n c).2.1 ≤ c + l.length ∧ c + 2 ≤ (szR M l n c).2.1 ∧ ((n : Int) ≤ M → ((szR M l n c).1 : Int) ≤ M)
  | [], n, c, h => by
    exfalso
    unfold szR at h
    split at h <;> simp at h
  | b :: r, n, c, h => by
    rw [szR_cons] at h ⊢
    split
    · rename_i h1
      rw [if_pos h1] at h
      have := two_len h
      exact ⟨by show c + 2 ≤ _; omega, Nat.le_refl _, fun h => h⟩
    · rename_i h1
      rw [if_neg h1] at h
      split
      · rename_i h2; rw [if_pos h2] at h; simp at h
      · rename_i h2
        rw [if_neg h2] at h
        split
        · rename_i h3; rw [if_pos h3] at h; simp at h
        · rename_i h3
          rw [if_neg h3] at h
          obtain ⟨i1, i2, i3⟩ := szR_ok M r _ _ h
          rw [List.length_cons]
          exact ⟨by omega, by omega, fun _ => i3 (by omega)⟩
/-- the state of the loop -/
structure RW (w wr : World) (m : Nat) (l body : List Int) (v : Value) (p f : Nat) (T : List Int × Nat × Int) : Prop where
  own : wr.ownsRow w.heap.size 5 1 v body.length (bv body)
  byt : Byt body
  le : body.length ≤ m
  bel : Below w.heap.size w wr
  fl : l.length < f + p
  run : whR (m : Int) l f p body = T
set_option maxRecDepth 100000 in
theorem own_slice {w : World} {base : Nat} {v : Value} {l : List Int} (h : w.ownsRow base 5 1 v l.length (bv l)) : ∃ a c, v = .slice a l.length c ∧ (a = none → c = 0) := by
  rcases h.2 with ⟨rfl, h0⟩ | ⟨g, cap, cur, rfl, _⟩
  · exact ⟨none, 0, by rw [h0], fun _ => rfl⟩
  · exact ⟨_, cap, rfl, fun h => by cases h⟩
set_option maxRecDepth 100000 in
set_option maxHeartbeats 2000000 in
theorem rwhole_any (a : Option Addr) (len cap : Nat) (l : List Int) (x : Int) (w : World) (h : Bts w a len cap l) (hs : len ≤ 1099511627776) :
    Calls Try.prog 9 #[.slice a len cap, .int .i64 x] w fun e w' => ∃ v, e = .returned (.tuple #[v, .int .i64 ((whV x l).2.1 : Int), .int .i64 (whV x l).2.2]) ∧ w'.ownsRow w.heap.size 5 1 v (whV x l).1.length (bv (whV x l).1) ∧ Below w.heap.size w w' := by
  by_cases hx : x < 0 ∨ 2048 < x
  · have HV : Bx (whV x l = ([], 0, 2)) := ⟨by unfold whV; rw [if_pos hx]⟩
    by_cases h1 : x < 0
    · have g1 : decide (x < 0) = true := by simpa using h1
      clear hx h1
      go_enter Try.func9, Try.ntmps9
      go_wp2
      go_ret3
      exact ⟨_, by rw [HV.out]; rfl, by rw [HV.out]; exact World.ownsRow_nil _ _ _ _, Below.refl _ _⟩
    · have g1 : decide (x < 0) = false := by simpa using h1
      have g2 : decide (x > 2048) = true := by rcases hx with h | h; exact absurd h h1; simpa using h
      clear hx h1
      go_enter Try.func9, Try.ntmps9
      go_wp2
      go_ret3
      exact ⟨_, by rw [HV.out]; rfl, by rw [HV.out]; exact World.ownsRow_nil _ _ _ _, Below.refl _ _⟩
  · obtain ⟨m, hm⟩ : ∃ m : Nat, x = (m : Int) := ⟨x.toNat, by omega⟩
    have hm2 : m ≤ 2048 := by omega
    have hlen := h.len_eq
    have HV : Bx (whV x l = whR (m : Int) l (l.length + 1) 0 []) := ⟨by
      rw [wh_run m l _ _ _ (by simp) (by omega) (by omega)]
      unfold whV; rw [if_neg hx, hm]; rfl⟩
    generalize whV x l = T at HV
    subst hm
    have hl : Hid (l.length = len) := hlen
    have hcap := h.le_cap
    have hcm := h.cap_le
    unfold maxLen at hcm
    have HBY : Hid (Byt l) := h.byt
    have H := Bx.mk h
    have g1 : decide ((m : Int) < 0) = false := by simp
    have g2 : decide ((m : Int) > 2048) = false := by simp; omega
    clear hx h hlen
    go_enter Try.func9, Try.ntmps9
    go_wp2
    clear g1 g2
    go_loopw [7, 8] (fun u i wr => ∃ (p f : Nat) (body : List Int), p ≤ len ∧ i = .int .i64 p ∧ Bx (RW w wr m l body u p f T)) (fun _ i _ => len - (intOf i).toNat)
    case atStart => exact ⟨0, l.length + 1, [], Nat.zero_le _, rfl, ⟨World.ownsRow_nil _ _ _ _, Byt.nil, by simp, Below.refl _ _, by omega, HV.out.symm⟩⟩
    case round =>
      clear HV
      obtain ⟨p, f, body, hp, rfl, HS⟩ := hrel
      obtain ⟨av, cv, hv, hvn⟩ := own_slice HS.out.own
      obtain ⟨f, rfl⟩ : ∃ f', f = f' + 1 := ⟨f - 1, by have := HS.out.fl; have := hl.out; omega⟩
      have hbl := HS.out.le
      have HRUN : Bx (whR (m : Int) l (f + 1) p body = T) := ⟨HS.out.run⟩
      unfold whR at HRUN
      have hsl := run_sl_l a len cap p (p : Int) rfl hp
      have HPB := Bx.mk ((H.out.below HS.out.bel).rest p hp)
      generalize slA a p cap = a2 at hsl HPB
      obtain ⟨Z, hZ⟩ : ∃ Z, szR ((m : Int) - body.length) (l.drop p) 0 0 = Z := ⟨_, rfl⟩
      have HZO : Bx (Z.2.2 = 0 → Z.2.1 ≤ len - p ∧ 2 ≤ Z.2.1 ∧ (Z.1 : Int) ≤ (m : Int) - body.length) := ⟨fun h0 => by
        rw [← hZ] at h0 ⊢
        obtain ⟨i1, i2, i3⟩ := szR_ok _ _ _ _ h0
        rw [List.length_drop, hl.out] at i1
        exact ⟨by omega, by omega, i3 (by simp; omega)⟩⟩
      have HSZ := Bx.mk (sized_any a2 (len - p) (cap - p) (l.drop p) ((m : Int) - body.length) wr HPB.out (by omega) (by omega) (by omega))
      rw [hZ] at HRUN HSZ
      obtain ⟨n, k, E⟩ := Z
      simp only at HZO HSZ
      have HRUN2 : Bx ((if E ≠ 0 then ([], 0, E) else if n = 0 then (if twoR (l.drop (p + k)) ≠ 0 then ([], 0, twoR (l.drop (p + k))) else (body, p + k + 2, 0)) else if l.length < p + k + n then ([], 0, 3) else if twoR (l.drop (p + k + n)) ≠ 0 then ([], 0, twoR (l.drop (p + k + n))) else whR (m : Int) l f (p + k + n + 2) (body ++ (l.drop (p + k)).take n)) = T) := HRUN
      subst hv
      clear HRUN hZ
      go_wp2_with fail
      refine HSZ.out.mono ?_
      rintro e w' ⟨rfl, hw'⟩
      subst hw'
      clear HSZ hsl HPB
      by_cases hE : E ≠ 0
      · have HT : Bx (T = ([], 0, E)) := ⟨by rw [← HRUN2.out, if_pos hE]⟩
        have k1 : (E != 0) = true := by simpa using hE
        clear HRUN2 hE
        go_wp2
        go_ret3
        exact ⟨_, by rw [HT.out]; rfl, by rw [HT.out]; exact World.ownsRow_nil _ _ _ _, HS.out.bel⟩
      · have hE0 : E = 0 := by simpa using hE
        obtain ⟨z1, z2, z3⟩ := HZO.out hE0
        rw [if_neg hE] at HRUN2
        subst hE0
        clear HZO hE
        by_cases hn : n = 0
        · rw [if_pos hn] at HRUN2
          subst hn
          have hsl := run_sl_l a len cap (p + k) ((p : Int) + k) (by omega) (by omega)
          have HTW := Bx.mk ((H.out.below HS.out.bel).rest (p + k) (by omega))
          have hpk : (p : Int) + k ≤ (len : Int) := by omega
          generalize slA a (p + k) cap = a3 at hsl HTW
          go_wp2_with fail
          refine (two_any _ _ _ _ _ HTW.out).mono ?_
          rintro e w' ⟨rfl, hw'⟩
          subst hw'
          generalize twoR (l.drop (p + k)) = E at HRUN2
          clear hsl HTW
          by_cases hE : E = 0
          · have HT : Bx (T = (body, p + k + 2, 0)) := ⟨by rw [← HRUN2.out, if_neg (by simpa using hE)]⟩
            subst hE
            clear HRUN2
            go_wp2
            go_ret3
            exact ⟨.slice av body.length cv, by rw [HT.out]; simp, by rw [HT.out]; exact HS.out.own, HS.out.bel⟩
          · have HT : Bx (T = ([], 0, E)) := ⟨by rw [← HRUN2.out, if_pos hE]⟩
            have k1 : (E != 0) = true := by simpa using hE
            clear HRUN2 hE
            go_wp2
            go_ret3
            exact ⟨_, by rw [HT.out]; rfl, by rw [HT.out]; exact World.ownsRow_nil _ _ _ _, HS.out.bel⟩
        · rw [if_neg hn] at HRUN2
          have k1 : ((n : Int) == 0) = false := by simpa using hn
          rw [hl.out] at HRUN2
          by_cases hsh : len < p + k + n
          · have HT : Bx (T = ([], 0, 3)) := ⟨by rw [← HRUN2.out, if_pos hsh]⟩
            have k2 : decide ((len : Int) - ((p : Int) + k) < (n : Int)) = true := by simp; omega
            clear HRUN2 hn hsh
            go_wp2
            go_ret3
            exact ⟨_, by rw [HT.out]; rfl, by rw [HT.out]; exact World.ownsRow_nil _ _ _ _, HS.out.bel⟩
          · have k2 : decide ((len : Int) - ((p : Int) + k) < (n : Int)) = false := by simp; omega
            rw [if_neg hsh] at HRUN2
            have hsl := run_sl_lh a len cap (p + k) (p + k + n) ((p : Int) + k) ((p : Int) + k + n) (by omega) (by omega) (by omega) (by omega)
            have HPC := Bx.mk ((H.out.below HS.out.bel).piece (p + k) (p + k + n) (by omega) (by omega))
            rw [show p + k + n - (p + k) = n from by omega] at hsl HPC
            generalize slA a (p + k) cap = a3 at hsl HPC
            have hsl2 := run_sl_l a len cap (p + k + n) ((p : Int) + k + n) (by omega) (by omega)
            generalize ha4 : slA a (p + k + n) cap = a4 at hsl2
            have HA4 := Bx.mk ha4
            have HOW := Bx.mk HS.out.own
            have hle5 : p + k + n ≤ len := by omega
            have HWL : Bx (2 ≤ (l.drop (p + k + n)).length → p + k + n + 2 ≤ len) := ⟨fun h => by rw [List.length_drop, hl.out] at h; omega⟩
            have HPL : Bx (((l.drop (p + k)).take n).length = n) := ⟨HPC.out.len_eq⟩
            clear hn hsh ha4
            go_wp2_with (at_builtin; refine wpList_append_bts rfl (.tmp 56) (.tmp 62) rfl w.heap.size body.length _ body rfl HOW.out a3 n _ _ rfl HPC.out (by omega) HS.out.bel.size ?_; intro v5 w5 ho5 hb5 _; have HO5 := Bx.mk ho5; have HB5 := Bx.mk (HS.out.bel.trans hb5); have HTW : Bx (Bts w5 a4 (len - (p + k + n)) (cap - (p + k + n)) (l.drop (p + k + n))) := ⟨by (rw [← HA4.out]; exact (H.out.below HB5.out).rest (p + k + n) (by omega))⟩; clear ho5 hb5)
            refine (two_any _ _ _ _ _ HTW.out).mono ?_
            rintro e w' ⟨rfl, hw'⟩
            subst hw'
            clear hsl hsl2 HPC HOW
            by_cases hE : twoR (l.drop (p + k + n)) = 0
            · have HT : Bx (whR (m : Int) l f (p + k + n + 2) (body ++ (l.drop (p + k)).take n) = T) := ⟨by rw [← HRUN2.out, if_neg (by simpa using hE)]⟩
              have hp5 := HWL.out (two_len hE)
              rw [hE]
              clear HRUN2 hE HWL HTW
              obtain ⟨nb, HNB⟩ : ∃ nb, Bx (nb = body ++ (l.drop (p + k)).take n) := ⟨_, ⟨rfl⟩⟩
              rw [← HNB.out] at HO5 HT
              have HNL : Bx (nb.length = body.length + n) := ⟨by rw [HNB.out, List.length_append, HPL.out]⟩
              rw [← HNL.out] at HO5
              have HNY : Bx (Byt nb) := ⟨by rw [HNB.out]; exact HS.out.byt.append (fun c hc => HBY.out c (List.mem_of_mem_drop (List.mem_of_mem_take hc)))⟩
              have HFL : Bx (l.length < f + (p + k + n + 2)) := ⟨by have := HS.out.fl; omega⟩
              have HNM : Bx (nb.length ≤ m) := ⟨by rw [HNL.out]; omega⟩
              clear HNB HNL HPL
              obtain ⟨av5, cv5, hv5, _⟩ := own_slice HO5.out
              subst hv5
              go_wp2
              go_roundw
              case rel => exact ⟨p + k + n + 2, f, nb, by omega, by go_num, ⟨HO5.out, HNY.out, HNM.out, HB5.out, HFL.out, HT.out⟩⟩
              case measure => simp [intOf]; omega
            · have HT : Bx (T = ([], 0, twoR (l.drop (p + k + n)))) := ⟨by rw [← HRUN2.out, if_pos hE]⟩
              generalize twoR (l.drop (p + k + n)) = E at HT hE
              have k3 : (E != 0) = true := by simpa using hE
              clear HRUN2 hE HWL HTW
              obtain ⟨av5, cv5, hv5, _⟩ : ∃ a c, v5 = .slice a (body.length + n) c ∧ True := by
                rcases HO5.out.2 with ⟨rfl, h0⟩ | ⟨g, cap, cur, rfl, _⟩
                · exact ⟨none, 0, by rw [h0], trivial⟩
                · exact ⟨_, cap, rfl, trivial⟩
              subst hv5
              go_wp2
              go_ret3
              exact ⟨_, by rw [HT.out]; rfl, by rw [HT.out]; exact World.ownsRow_nil _ _ _ _, HB5.out⟩
end Go.Proofs.Ytjlclgmbenhakaa
