/- Sync and Crash of the document's own disk. -/
import Derived.Test.YtihmfnndnjhpbaaRefSy9
namespace Go.Proofs.Ytihmfnndnjhpbaa
open Go.RowKit
set_option linter.unusedVariables false

set_option maxRecDepth 100000 in
set_option maxHeartbeats 400000 in
theorem rsync_any (g : Nat) (own : Nat → Prop) (s : DS) (m : Nat) (w : World) (h : RS w g own s m) (hok : s.Ok) (hm : m ≤ 1000) :
    Calls Try.prog 30 #[.pointer (some ⟨g, 0, none⟩)] w fun e w' => e = .returned (.int .i64 s.syE) ∧ ∃ own', RS w' g own' s.sy m ∧ Did own w w' own' := by
  have H : Bx (RS w g own s m) := ⟨h⟩
  obtain ⟨X, left, power, vl, hR, hS, hXm⟩ := h
  have c3 := hR.c3
  have HRB : Bx _ := ⟨hR⟩
  by_cases h1 : s.off = true
  · have HE : Bx (s.syE = 14 ∧ s.sy = s) := ⟨by simp [DS.syE, DS.sy, h1]⟩
    rw [show power = false from by rw [hS.power, h1]; rfl] at c3
    clear hR hS h1 hok
    go_enter Try.func30, Try.ntmps30
    go_wp2
    go_ret
    exact ⟨ret_int HE.out.1.symm, own, by rw [HE.out.2]; exact H.out, Did.same (Kept.refl _ _)⟩
  · have h1' : s.off = false := by simpa using h1
    obtain rfl : power = true := by rw [hS.power, h1']; rfl
    by_cases h6 : s.last = true
    · have hl0 : left = 0 := by have := hS.last; rw [h6] at this; exact of_decide_eq_true this.symm
      subst hl0
      have HE : Bx (s.syE = 14 ∧ s.sy = s.dead) := ⟨by simp [DS.syE, DS.sy, h1', h6]⟩
      have HSD : Bx _ := ⟨hS.dead⟩
      clear hR hS h1 h1' h6 hok
      go_enter Try.func30, Try.ntmps30
      go_wp2_with fail
      refine (goes_no g own _ X true vl _ HRB.out).mono ?_
      rintro e w1 ⟨rfl, hR1, hK1⟩
      go_wp2
      go_ret
      exact ⟨ret_int HE.out.1.symm, own, by rw [HE.out.2]; exact ⟨X, 0, false, vl, hR1, HSD.out, hXm⟩, Did.same hK1⟩
    · have h6' : s.last = false := by simpa using h6
      have hl0 : left ≠ 0 := by have := hS.last; rw [h6'] at this; exact of_decide_eq_false this.symm
      have HE : Bx (s.syE = 0) := ⟨by simp [DS.syE, h1', h6']⟩
      have HSS : Bx _ := ⟨hS.sy hok h1' h6'⟩
      have HFE : Bx (s.sy.F.length = s.F.length) := ⟨by
        have e : s.sy = { s.tick with F := app s.F s.O, O := [] } := by unfold DS.sy; rw [h1', h6']; rfl
        rw [e]; exact app_len _ _⟩
      clear hR hS h1 h1' h6 h6' hok
      go_enter Try.func30, Try.ntmps30
      go_wp2_with fail
      refine (goes_yes g own _ X left true vl _ HRB.out hl0).mono ?_
      rintro e w1 ⟨rfl, hR1, hK1⟩
      clear c3 hl0 HRB
      go_wp2_with fail
      refine (settle_any g own _ X (tickL left) true vl _ hR1 (by omega)).mono ?_
      rintro e w2 ⟨⟨u, rfl⟩, own2, vl2, hR2, hdid2⟩
      clear hR1
      go_wp2
      go_ret
      exact ⟨ret_int HE.out.symm, own2, ⟨_, _, _, vl2, by rw [HFE.out]; exact hR2, HSS.out, Nat.le_trans (setl_len X) hXm⟩, (Did.same hK1).trans hdid2⟩
set_option maxRecDepth 100000 in
set_option maxHeartbeats 1000000 in
theorem rcrash_any (g : Nat) (own : Nat → Prop) (s : DS) (m : Nat) (a : Option Addr) (len cap : Nat) (K : List Bool) (w : World) (h : RS w g own s m) (hm : m ≤ 1000) (hK : Bls w a len cap K) :
    Calls Try.prog 32 #[.pointer (some ⟨g, 0, none⟩), .slice a len cap] w fun e w' => (∃ u, e = .returned u) ∧ ∃ own', RS w' g own' (s.cr K) m ∧ Did own w w' own' := by
  obtain ⟨X, left, power, vl, hR, hS, hXm⟩ := h
  have HSS : Bx _ := ⟨hS.cr K⟩
  have HFE : Bx ((s.cr K).F.length = s.F.length) := ⟨app_len _ _⟩
  obtain ⟨al, cl, rfl, hc1, hc2⟩ := vl_form hR.lst
  have HR : Bx _ := ⟨hR⟩
  have HKK : Bx (Bls w a len cap K) := ⟨hK⟩
  have hkc := hK.le_cap
  have hkm := hK.cap_le
  unfold maxLen at hkm
  have hXl : X.length ≤ 1000 := by omega
  have hR0 : ∃ Y, Bx (Y ++ crX (X.drop 0) (K.drop 0) = crX X K) ∧ w.ownsRow w.heap.size 77 3 (.slice none 0 0) Y.length (ecl Y) ∧ Below w.heap.size w w ∧ Y.length ≤ 0 := ⟨[], ⟨rfl⟩, World.ownsRow_nil _ _ _ _, Below.refl _ _, Nat.le_refl _⟩
  clear hR hS hK
  go_enter Try.func32, Try.ntmps32
  go_wp2
  go_loopw [4, 5, 6] (fun v ki i wr => ∃ j kk : Nat, j ≤ X.length ∧ kk ≤ j ∧ i = .int .i64 j ∧ ki = .int .i64 kk ∧ ∃ Y, Bx (Y ++ crX (X.drop j) (K.drop kk) = crX X K) ∧ wr.ownsRow w.heap.size 77 3 v Y.length (ecl Y) ∧ Below w.heap.size w wr ∧ Y.length ≤ j) (fun _ _ i _ => X.length - (intOf i).toNat)
  case atStart => exact ⟨0, 0, Nat.zero_le _, Nat.le_refl _, rfl, rfl, hR0⟩
  case round =>
    clear hR0
    obtain ⟨j, kk, hj, hkj, rfl, rfl, Y, HY, hown, hlow, hYj⟩ := hrel
    obtain ⟨vAll, hvAll⟩ : ∃ vAll, vAll = u4 := ⟨_, rfl⟩
    subst hvAll
    have hRr := HR.out.below hlow
    have c1 := hRr.c1
    have hsz := hlow.size
    by_cases hlt : j < X.length
    · have hI : (j : Int) < (X.length : Int) := by omega
      obtain ⟨gl, x, rfl, hx0, k0, k1, k2⟩ := hRr.nth j hlt
      have HSR := crX_round X K j kk x hx0
      rw [HSR] at HY
      obtain ⟨bx, cx, _, hxv0, _⟩ := hRr.ents x (List.mem_of_getElem? hx0)
      have hxo : ∀ u ∈ [Value.int .i64 x.pos, x.v, .bool x.sure], u.oneCell' = true := v_one (hRr.ents x (List.mem_of_getElem? hx0)) x.sure
      have HE1 : Bx (ecl (Y ++ [x]) = ecl Y ++ [.int .i64 x.pos, x.v, .bool x.sure]) := ⟨by rw [ecl_append, ecl_one]⟩
      rw [hxv0] at k1 hxo HE1
      obtain ⟨xp, hxp⟩ : ∃ xp, xp = x.pos := ⟨_, rfl⟩
      rw [← hxp] at k0 hxo HE1
      cases hsu : x.sure with
      | true =>
        rw [hsu] at k2 hxo HE1 HY
        have HYN : Bx ((Y ++ [x]) ++ crX (X.drop (j + 1)) (K.drop kk) = crX X K) := ⟨by have := HY.out; rw [if_pos rfl] at this; rw [← this]; simp⟩
        clear HSR hx0 hRr HY hxv0 hxp hsu
        obtain ⟨i0, hi0, hz0, hz1, hz2⟩ := info_parts ref_info
        have hnew := World.news_of_block (heap_alloc_new wr (.cells #[.int .i64 xp, .slice (some ⟨bx, 0, none⟩) 64 cx, .bool true] 77))
        have hownA := hown.alloc (.cells #[.int .i64 xp, .slice (some ⟨bx, 0, none⟩) 64 cx, .bool true] 77)
        have hlowA : Below w.heap.size w (wr.alloc (.cells #[.int .i64 xp, .slice (some ⟨bx, 0, none⟩) 64 cx, .bool true] 77)) := hlow.alloc hsz _
        have hsA := hlowA.size
        clear hown hlow
        go_wp2_with (at_builtin; refine wpList_append_own _ rfl (.tmp 24) (.tmp 32) 63 rfl w.heap.size 77 i0 (.agg #[.int .i64 0, .slice none 0 0, .bool false]) 3 40 Try.underlying63 hi0 hz0 hz1 hz2 rfl (by decide) vAll Y.length (ecl Y) rfl hownA ⟨wr.heap.size, 0, none⟩ 1 1 [.int .i64 xp, .slice (some ⟨bx, 0, none⟩) 64 cx, .bool true] rfl rfl hnew hxo (by unfold maxLen; omega) (by omega) hsA ?_; intro v9 w9 hown9 hgr9 _)
        have hown2 : w9.ownsRow w.heap.size 77 3 v9 (Y ++ [x]).length (ecl (Y ++ [x])) := by rw [List.length_append, HE1.out]; exact hown9
        have hlow9 : Below w.heap.size w w9 := hlowA.grown hgr9 hsA (fun q hq => (hownA.lt q hq).1)
        clear hown9 hgr9 hownA hlowA hi0 hz0 hz1 hz2 hnew
        go_wp2
        go_roundw
        case rel => exact ⟨j + 1, kk, by omega, by omega, by go_num, rfl, _, HYN, hown2, hlow9, by rw [List.length_append]; show Y.length + 1 ≤ j + 1; omega⟩
        case measure => simp [intOf]; omega
      | false =>
        rw [hsu] at k2 hxo HE1 HY
        have hkb := HKK.out.below hlow
        have HKL : Bx (K.length = len) := ⟨hkb.len_eq⟩
        by_cases hyes : K.getD kk false = true
        · have hjl : kk < len := by
            refine Classical.byContradiction fun hge => ?_
            rw [List.getD_eq_getElem?_getD, List.getElem?_eq_none (by have := HKL.out; omega)] at hyes
            cases hyes
          obtain ⟨kb, ko, rfl, hkbl, hkcc⟩ := hkb.spot (by omega)
          have hkcell := hkcc kk hjl
          rw [hyes] at hkcell
          have hjI : (kk : Int) < (len : Int) := by omega
          have gj : decide ((kk : Int) < (len : Int)) = true := by simpa using hjI
          have HYN : Bx ((Y ++ [x]) ++ crX (X.drop (j + 1)) (K.drop (kk + 1)) = crX X K) := ⟨by have := HY.out; rw [if_neg (by decide), if_pos hyes] at this; rw [← this]; simp⟩
          clear HSR hx0 hRr HY hxv0 hxp hsu hyes hkb hkcc
          obtain ⟨i0, hi0, hz0, hz1, hz2⟩ := info_parts ref_info
          have hnew := World.news_of_block (heap_alloc_new wr (.cells #[.int .i64 xp, .slice (some ⟨bx, 0, none⟩) 64 cx, .bool false] 77))
          have hownA := hown.alloc (.cells #[.int .i64 xp, .slice (some ⟨bx, 0, none⟩) 64 cx, .bool false] 77)
          have hlowA : Below w.heap.size w (wr.alloc (.cells #[.int .i64 xp, .slice (some ⟨bx, 0, none⟩) 64 cx, .bool false] 77)) := hlow.alloc hsz _
          have hsA := hlowA.size
          clear hown hlow
          go_wp2_with (at_builtin; refine wpList_append_own _ rfl (.tmp 44) (.tmp 52) 63 rfl w.heap.size 77 i0 (.agg #[.int .i64 0, .slice none 0 0, .bool false]) 3 40 Try.underlying63 hi0 hz0 hz1 hz2 rfl (by decide) vAll Y.length (ecl Y) rfl hownA ⟨wr.heap.size, 0, none⟩ 1 1 [.int .i64 xp, .slice (some ⟨bx, 0, none⟩) 64 cx, .bool false] rfl rfl hnew hxo (by unfold maxLen; omega) (by omega) hsA ?_; intro v9 w9 hown9 hgr9 _)
          have hown2 : w9.ownsRow w.heap.size 77 3 v9 (Y ++ [x]).length (ecl (Y ++ [x])) := by rw [List.length_append, HE1.out]; exact hown9
          have hlow9 : Below w.heap.size w w9 := hlowA.grown hgr9 hsA (fun q hq => (hownA.lt q hq).1)
          clear hown9 hgr9 hownA hlowA hi0 hz0 hz1 hz2 hnew
          go_wp2
          go_roundw
          case rel => exact ⟨j + 1, kk + 1, by omega, by omega, by go_num, by go_num, _, HYN, hown2, hlow9, by rw [List.length_append]; show Y.length + 1 ≤ j + 1; omega⟩
          case measure => simp [intOf]; omega
        · have hno : K.getD kk false = false := by simpa using hyes
          have HYN : Bx (Y ++ crX (X.drop (j + 1)) (K.drop (kk + 1)) = crX X K) := ⟨by have := HY.out; rwa [if_neg (by decide), if_neg hyes] at this⟩
          clear HSR hx0 hRr HY hxv0 hxp hsu hyes hxo HE1 k0 k1
          by_cases hjl : kk < len
          · obtain ⟨kb, ko, rfl, hkbl, hkcc⟩ := hkb.spot (by omega)
            have hkcell := hkcc kk hjl
            rw [hno] at hkcell
            have hjI : (kk : Int) < (len : Int) := by omega
            have gj : decide ((kk : Int) < (len : Int)) = true := by simpa using hjI
            clear hno hkb hkcc
            go_wp2
            go_roundw
            case rel => exact ⟨j + 1, kk + 1, by omega, by omega, by go_num, by go_num, Y, HYN, hown, hlow, by omega⟩
            case measure => simp [intOf]; omega
          · have gj : decide ((kk : Int) < (len : Int)) = false := by simp; omega
            clear hno hkb
            go_wp2
            go_roundw
            case rel => exact ⟨j + 1, kk + 1, by omega, by omega, by go_num, by go_num, Y, HYN, hown, hlow, by omega⟩
            case measure => simp [intOf]; omega
    · obtain rfl : j = X.length := by omega
      have HYE : Bx (Y = crX X K) := ⟨by have := HY.out; rw [List.drop_length] at this; simpa [crX] using this⟩
      rw [HYE.out] at hown
      obtain ⟨aV, cV, e9, _, _⟩ := vl_form hown
      subst e9
      have f1 := hRr.fr 1
      have hV : ∀ q, (Value.slice aV (crX X K).length cV).ownBlock = some q → w.heap.size ≤ q ∧ q < wr.heap.size := fun q hq => hown.lt q hq
      have HOL : Bx (∀ q, own q → q < w.heap.size) := ⟨HR.out.lt⟩
      have hRf := hRr.setList (own2 := fun q => own q ∨ (Value.slice aV (crX X K).length cV).ownBlock = some q) (owns_base hown (Nat.zero_le _)) (fun z hz => (hRr.ents z (crX_mem X K z hz)).same rfl rfl (fun q hq => .inl hq)) (fun q hq => .inl hq) (fun q hq => .inr hq) (fun q hq => by
        rcases hq with hq | hq
        · have := HOL.out q hq; omega
        · exact (hV q hq).2)
      have HRF : Bx _ := ⟨hRf⟩
      have hkp : Kept own w (wr.setCell ⟨g, 1, none⟩ (.slice aV (crX X K).length cV)) := (Kept.of_below hlow).setCell (.inl hRr.og) 1 _
      have HD1 : Bx (Did own w (wr.setCell ⟨g, 1, none⟩ (.slice aV (crX X K).length cV)) (fun q => own q ∨ (Value.slice aV (crX X K).length cV).ownBlock = some q)) := ⟨⟨hkp, fun q hq => by
        have hl := hRf.lt q hq
        rcases hq with hq | hq
        · exact .inl hq
        · exact .inr ⟨(hV q hq).1, hl⟩⟩⟩
      clear hRr hown hlow hRf HY HYE hV hkp
      go_wp2_with fail
      refine (settle_any g _ _ (crX X K) left power _ _ HRF.out (Nat.le_trans (crX_len X K) hXl)).mono ?_
      rintro e w2 ⟨⟨u, rfl⟩, own2, vl2, hR2, hdid2⟩
      have d2 := hR2.c2
      have d3 := hR2.c3
      have e2 := hR2.fr 2
      have e3 := hR2.fr 3
      have HRE : Bx (Rf ((w2.setCell ⟨g, 2, none⟩ (.int .i64 (-1))).setCell ⟨g, 3, none⟩ (.bool true)) g own2 s.F.length (setl (crX X K)) (-1) true vl2) := ⟨(hR2.setLeft (-1) (by decide)).setPower true⟩
      have HDE : Bx (Did own w ((w2.setCell ⟨g, 2, none⟩ (.int .i64 (-1))).setCell ⟨g, 3, none⟩ (.bool true)) own2) := ⟨(HD1.out.trans hdid2).trans (Did.same (((Kept.refl own2 w2).setCell (.inl hR2.og) 2 _).setCell (.inl hR2.og) 3 _))⟩
      have HLE : Bx ((setl (crX X K)).length ≤ m) := ⟨Nat.le_trans (setl_len _) (Nat.le_trans (crX_len X K) hXm)⟩
      clear hR2 hdid2 HRF HD1 c1
      go_wp2
      go_end0
      exact ⟨⟨_, rfl⟩, own2, ⟨_, _, _, vl2, by rw [HFE.out]; exact HRE.out, HSS.out, HLE.out⟩, HDE.out⟩
end Go.Proofs.Ytihmfnndnjhpbaa
