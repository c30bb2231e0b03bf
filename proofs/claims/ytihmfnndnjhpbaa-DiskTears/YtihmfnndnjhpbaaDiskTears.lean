/- For every two lists of calls and every list of bools the law DiskTears returns true and all read as they did (P9.4, P9.6): behind a crash each sector has the bytes that it had at the last sync, or those of one write behind it; if all are kept, of the last one. No condition. -/
import Derived.Test.YtihmfnndnjhpbaaRows
import Derived.Test.YtihmfnndnjhpbaaTear9b
import Derived.WalkKit
import Derived.ProofKit
import Derived.OpenShut
import Derived.ShutString
import Derived.ChangeOld
import Derived.Below
namespace Go.Proofs.Ytihmfnndnjhpbaa.diskTears
open Go.ChangeShapes Go.WideShapes Go.ChangeAt Go.RowKit
open Go.ChangeMaps (open_string shut_string)
set_option linter.unusedVariables false

theorem own : ownKnob Try.prog.godebug = none := by kernel_rfl
theorem laidOut : laidOutB Try.prog = true := by kernel_rfl

theorem _root_.Go.Proofs.Ytihmfnndnjhpbaa.TS.cellp {w wr : World} {g gs : Nat} {col : Nat → Nat} {s : DS} {aW : Option Addr} {cW : Nat} {W : List (List Int)} {V : List Value} {T : List (List (List Int))} (h : TS w wr g gs col s aW cW W V T) {p : Nat} (hp : p < 8) {vp : Value} (hv : vp = V.getD p undef) : wr.cell? ⟨gs, p, none⟩ = some vp := by
  rw [cell_of_row _ _ p _ _ (0, 0) h.row, List.getElem?_toArray, hv, List.getD_eq_getElem?_getD, List.getElem?_eq_getElem (by rw [h.vl]; exact hp)]; rfl
theorem _root_.Go.Proofs.Ytihmfnndnjhpbaa.owns_cap {w : World} {base : Nat} {e : TypeId} {n cap : Nat} {a : Option Addr} {xs : List Value} (h : w.ownsRow base e 1 (.slice a n cap) n xs) {k : Nat} (hk : k ≤ n) : k ≤ cap := by
  rcases h.2 with ⟨h1, h2⟩ | ⟨g, cp, cur, hv, _, _, hn, _⟩
  · injection h1 with _ h3 h4; omega
  · injection hv with _ _ h4; omega
theorem _root_.Go.Proofs.Ytihmfnndnjhpbaa.owns_capm {w : World} {base : Nat} {e : TypeId} {n cap : Nat} {a : Option Addr} {xs : List Value} (h : w.ownsRow base e 1 (.slice a n cap) n xs) : cap ≤ 9223372036854775807 := by
  rcases h.2 with ⟨h1, h2⟩ | ⟨g, cp, cur, hv, _, _, hn, hm, _⟩
  · injection h1 with _ h3 h4; omega
  · injection hv with _ _ h4; unfold maxLen at hm; omega

set_option maxRecDepth 100000 in
set_option maxHeartbeats 4000000 in
theorem walk (a0 : Option Addr) (len0 cap0 : Nat) (L : List DoM) (a1 : Option Addr) (len1 cap1 : Nat) (M : List DoM) (a2 : Option Addr) (len2 cap2 : Nat) (K : List Bool) (w : World) (hL : Dos w a0 len0 cap0 L) (hM : Dos w a1 len1 cap1 M) (hK : Bls w a2 len2 cap2 K) :
    Calls Try.prog 5 #[.slice a0 len0 cap0, .slice a1 len1 cap1, .slice a2 len2 cap2] w fun e w' => e = .returned (.bool true) ∧ Below w.heap.size w w' := by
  go_enter Try.func5, Try.ntmps5
  go_wp2_with fail
  refine (made_any a0 len0 cap0 L _ hL).mono ?_
  rintro e w1 ⟨g, own, rfl, hD, hown, hb1⟩
  obtain ⟨h8, hOl⟩ := mdS_eight (L.take 150)
  have hO : (mdS (L.take 150)).O.length ≤ 1000000 := by rw [List.length_take] at hOl; omega
  generalize mdS (L.take 150) = s at hD h8 hO
  have hs1 := hb1.size
  clear hOl hL
  go_wp2_with fail
  refine (sync_any g own s _ hD hO).mono ?_
  rintro e w2 ⟨rfl, hD2, hkp2⟩
  obtain ⟨e1, e2⟩ := h8.sy
  rw [e2]
  have hb2 : Below w.heap.size w w2 := hb1.trans (hkp2.low hown hs1)
  have h82 : Eight s.sy := by rw [e1]; exact ⟨by show (app s.F s.O).length = 8; rw [app_len]; exact h8.n, h8.armed, h8.off⟩
  have hO0 : s.sy.O = [] := by rw [e1]
  generalize s.sy = s2 at hD2 h82 hO0
  clear hD h8 hO hb1 hs1 hkp2 e1 e2
  go_wp2_with fail
  refine (all_any g own s2 _ hD2 h82.n h82.off).mono ?_
  rintro e w3 ⟨aW, cW, rfl, hTW, hb3⟩
  have hNW : s2.now = s2.F := by unfold DS.now; rw [hO0]; rfl
  rw [hNW] at hTW
  have hb03 := bstep hb2 hb3
  obtain ⟨col0, hTS0⟩ := TS.start hb03 (hD2.below hb3) hown hD2.lt hb2.size hTW
  have hM3 := hM.below hb03
  have hK3 := hK.below hb03
  clear hTW hNW hD2 hb2 hb3 hown
  go_wp2_with fail
  refine (few9_any a1 len1 cap1 M _ hM3).mono ?_
  rintro e w' ⟨⟨m, rfl, hm, hM4⟩, rfl⟩
  have HMW : Bx (Dos w a1 m cap1 (M.take 150)) := ⟨by
    by_cases hlen : 150 ≤ len1
    · have h1 := hM.take 150 hlen
      have e1 := hM4.len_eq
      have e2 := h1.len_eq
      rw [← e1, e2]; exact h1
    · have e0 : M.take 150 = M := List.take_of_length_le (by rw [hM.len_eq]; omega)
      have e1 := hM4.len_eq
      rw [e0] at e1 ⊢
      rw [← e1, hM.len_eq]; exact hM⟩
  generalize M.take 150 = T at HMW
  have hcm := hM4.cap_le
  have hcc := hM4.le_cap
  unfold maxLen at hcm
  clear hM hM3 hM4
  go_wp2_with fail
  refine (kept_any a2 len2 cap2 K _ hK3).mono ?_
  rintro e w' ⟨⟨lk, rfl, hlk, hK4⟩, rfl⟩
  have HKW : Bx (Bls w a2 lk cap2 (K.take 300)) := ⟨by
    by_cases hlen : 300 ≤ len2
    · have h1 := hK.take 300 hlen
      have e1 := hK4.len_eq
      have e2 := h1.len_eq
      rw [← e1, e2]; exact h1
    · have e0 : K.take 300 = K := List.take_of_length_le (by rw [hK.len_eq]; omega)
      have e1 := hK4.len_eq
      rw [e0] at e1 ⊢
      rw [← e1, hK.len_eq]; exact hK⟩
  generalize K.take 300 = KK at HKW
  have hkm := hK4.cap_le
  have hkc := hK4.le_cap
  unfold maxLen at hkm
  clear hK hK3 hK4
  have hR0 : ∃ col s V, TS w (w3.alloc (.cells #[.slice none 0 0, .slice none 0 0, .slice none 0 0, .slice none 0 0, .slice none 0 0, .slice none 0 0, .slice none 0 0, .slice none 0 0] 47)) g w3.heap.size col s aW cW s2.F V (selT s.O) ∧ Eight s ∧ Bx (s.F = s2.F) ∧ s.O.length = 0 := ⟨col0, s2, _, by rw [hO0]; exact hTS0, h82, ⟨rfl⟩, by rw [hO0]; rfl⟩
  have h2n := h82.n
  clear hTS0 h82 hO0 hb03
  generalize s2.F = F0 at hR0 h2n
  go_wp2
  generalize w3.alloc (.cells #[.slice none 0 0, .slice none 0 0, .slice none 0 0, .slice none 0 0, .slice none 0 0, .slice none 0 0, .slice none 0 0, .slice none 0 0] 47) = w4 at hR0 ⊢
  generalize w3.heap.size = gs at hR0 ⊢
  go_loopw [10, 11] (fun cn i wr => ∃ j c : Nat, j ≤ m ∧ c ≤ j ∧ i = .int .i64 j ∧ cn = .int .i64 c ∧ ∃ col s V, TS w wr g gs col s aW cW F0 V (selT s.O) ∧ Eight s ∧ Bx (s.F = F0) ∧ s.O.length = c) (fun _ i _ => m - (intOf i).toNat)
  case atStart => exact ⟨0, 0, Nat.zero_le _, Nat.le_refl _, rfl, rfl, hR0⟩
  case round =>
    clear hR0
    obtain ⟨j, c, hj, hcj, rfl, rfl, col, s, V, hTS, h8, HFE, hOc⟩ := hrel
    by_cases hlt : j < m
    · have hjI0 : j < m := hlt
      have hjI : (j : Int) < (m : Int) := by omega
      obtain ⟨b, off, b2, l2, c2, b3, l3, c3, rfl, k0, k1, k2, k3, hV⟩ := HMW.out.at hTS.low j hlt
      have hbt := hV.b
      generalize T.getD j doZ = k at k0 k1 hV hbt
      obtain ⟨kd, x, bb, Kq⟩ := k
      dsimp only at k0 k1 hbt
      clear hV k3
      by_cases h0 : kd = 0
      · subst h0
        have hlb := least_bd x 0 7 (by decide)
        have hbr := hbt.below hTS.low
        clear hbt
        go_wp2_with fail
        refine (least_any x 0 7 _).mono ?_
        rintro e w' ⟨rfl, rfl⟩
        generalize leastV x 0 7 = xx at hlb ⊢
        obtain ⟨p, rfl⟩ : ∃ p : Nat, xx = p := ⟨xx.toNat, by omega⟩
        have hp8 : p < 8 := by omega
        go_wp2_with fail
        refine (cut_any b2 l2 c2 64 bb _ hbr (by decide)).mono ?_
        rintro e w' ⟨⟨mm, rfl, hmm⟩, rfl⟩
        have h64 := take64 bb
        have hmb : mm ≤ 64 := by rw [← hmm.len_eq]; exact h64
        generalize bb.take 64 = cc at hmm h64
        clear hbr k0 k1 k2
        go_wp2_with fail
        refine (copy_any b2 mm c2 cc _ hmm (by omega)).mono ?_
        rintro e w1a ⟨v1, rfl, hown1, hb1⟩
        have hby := hmm.byt
        have HTS : Bx _ := ⟨hTS⟩
        have hs1 := hb1.size
        clear hmm hTS
        obtain ⟨P, hPd⟩ : ∃ P, P = pad64 cc := ⟨_, rfl⟩
        have HPT : Bx ((cc ++ List.replicate 64 0).take 64 = P) := ⟨by rw [hPd]; exact pad_take cc h64⟩
        have HPP : Bx (pad64 P = P) := ⟨by rw [hPd]; exact pad_pad cc h64⟩
        have hPs : Sx P := by rw [hPd]; exact pad64_sx hby h64
        clear hPd
        go_wp2_with (refine wpList_app_zeros rfl (.tmp 59) (.const (.int .i64 64)) rfl wr.heap.size mm 64 v1 cc rfl rfl hown1 (by omega) hs1 ?_; intro v2 w2a hown2 hb2a; obtain ⟨rb, capb, rfl, hrbg, hrbl⟩ := owns_form hown2 (by omega); have hcap : 64 ≤ capb := owns_cap hown2 (by omega); have hcapm : capb ≤ 9223372036854775807 := owns_capm hown2; have hsl := bts_cut64 rb (mm + 64) capb hcap)
        have hrP : Bts w2a (some ⟨rb, 0, none⟩) 64 capb P := by
          obtain ⟨ao, cp, e9, h9⟩ := Bts.of_owns hown2 (hby.append (fun c hc => by rw [List.eq_of_mem_replicate hc]; decide))
          cases e9
          exact (h9.cut 64 (by omega)).list HPT.out
        have hTS2 := HTS.out.step (hb1.trans hb2a)
        have hc0 : col rb = 0 := Classical.byContradiction fun hh => by have := HTS.out.lt rb hh; omega
        have hrbw : Bx (w.heap.size ≤ rb) := ⟨Nat.le_trans HTS.out.low.size hrbg⟩
        have hPl : P.length = 64 := hPs.1
        clear hown1 hb1 hown2 hb2a HTS hs1 HPT
        refine (write_any g (fun k => col k = 1) s p (some ⟨rb, 0, none⟩) 64 capb P _ hTS2.d hrP (fun _ q hq (hh : col q.block = 1) => by cases hq; have hh2 : col rb = 1 := hh; omega) (by omega)).mono ?_
        rintro e w5 ⟨rfl, own5, hD5, hdid5⟩
        obtain ⟨e1, e2⟩ := h8.wr p P hlb.1 hlb.2 (by omega)
        rw [e2]
        rw [e1, show ((p : Int)).toNat = p from rfl, HPP.out] at hD5
        obtain ⟨col5, hTS5, hz5⟩ := hTS2.callD hD5 hdid5
        have hrB := hrP.kept hdid5.kept (fun _ q hq (hh : col q.block = 1) => by cases hq; have hh2 : col rb = 1 := hh; omega)
        have hcrb : Bx (col5 rb = 0) := ⟨hz5 rb hrbl hc0⟩
        have h85 : Eight ({ s with O := s.O ++ [(p, P)] } : DS) := ⟨h8.n, h8.armed, h8.off⟩
        have HFE5 : Bx (({ s with O := s.O ++ [(p, P)] } : DS).F = F0) := ⟨HFE.out⟩
        have hOc5 : ({ s with O := s.O ++ [(p, P)] } : DS).O.length = c + 1 := by show (s.O ++ [(p, P)]).length = _; rw [List.length_append, hOc]; rfl
        have HSM := selT_more s.O p P hp8
        have hOE : ({ s with O := s.O ++ [(p, P)] } : DS).O = s.O ++ [(p, P)] := rfl
        have hLs : (selT s.O).getD p [] = sel s.O p := selT_get _ _ hp8
        have hLsl : (sel s.O p).length ≤ 1000 := by
          have h1 : (sel s.O p).length ≤ s.O.length := by unfold sel; rw [List.length_map]; exact List.length_filter_le _ _
          omega
        rw [← hLs] at hLsl
        generalize ({ s with O := s.O ++ [(p, P)] } : DS) = s5 at hTS5 h85 HFE5 hOc5 hOE
        have HSM5 : Bx ((selT s.O).set p ((selT s.O).getD p [] ++ [P]) = selT s5.O) := ⟨by rw [hOE]; exact HSM⟩
        generalize selT s.O = TT at hTS5 HSM5 hLsl
        obtain ⟨Ls, hLse⟩ : ∃ Ls, Ls = TT.getD p [] := ⟨_, rfl⟩
        have HLs : Bx (Ls = TT.getD p []) := ⟨hLse⟩
        rw [← hLse] at hLsl HSM5
        obtain ⟨vp, hvpe⟩ : ∃ vp, vp = V.getD p undef := ⟨_, rfl⟩
        have hvp : Bx (vp = V.getD p undef) := ⟨hvpe⟩
        have HSE : Bx (∀ {wk : World}, TS w wk g gs col5 s5 aW cW F0 V TT → ∃ xs, wk.ownsRow 0 33 1 vp Ls.length xs ∧ ∀ i, i < Ls.length → ∃ ai li ci, xs[i]? = some (.slice ai li ci) ∧ Bts wk ai li ci (Ls.getD i []) ∧ (0 < li → ∀ q, ai = some q → col5 q.block = 4 + p ∧ vp.ownBlock ≠ some q.block)) := ⟨fun hh => by
          have h9 := (hh.sent p hp8).row
          rw [← hvpe, ← hLse] at h9
          exact h9⟩
        clear hD5 hdid5 hTS2 hrP hc0 hz5 e1 e2 hLs HSM hOE hLse hvpe hby h8 HFE hOc
        have hpI : (p : Int) < 8 := by omega
        obtain ⟨i0, hi0, hz0, hz1, hz2⟩ := info_parts Try.info22
        go_upto_region 16 with fail
        try simp only [Act.put, List.setIfInBounds_toArray, List.set_cons_zero, List.set_cons_succ]
        go_cut [74] from 67 to 75 (fun s74 wx => ∃ V', ∃ col', TS w wx g gs col' s5 aW cW F0 V' (TT.set p (Ls ++ [P])))
        case first =>
          have hTS : TS w w5.drew g gs col5 s5 aW cW F0 V TT := hTS5.drewN 1
          replace hrB : Bts w5.drew (some ⟨rb, 0, none⟩) 64 capb P := hrB.drewN 1
          have hk : True := trivial
          clear hTS5
          refine wp_region_held_drew (S := fun _ => True) (by kernel_rfl) hk (fun _ => ?_)
          generalize w5.drew = wk at hTS hrB ⊢
          refine wpAnyH_take (i := 0) (oi := { dst := some 67, op := Op.move (Operand.tmp 12), type := 3, pos := "law.go:173", after := #[], guard := none }) (v := ?vdte161) rfl (by kernel_rfl) (by kernel_rfl) (by kernel_rfl) (fun _ _ _ h => h) (Or.inl ⟨by rfl, ?ydte161⟩) hk ?rdte161
          case ydte161 => (intro w hSw; (try dsimp only at hSw); go_simp; first | done | with_reducible rfl)
          simp only [Act.put, List.setIfInBounds_toArray, List.set_cons_zero, List.set_cons_succ]
          refine wpAnyH_take (i := 1) (oi := { dst := some 68, op := Op.move (Operand.tmp 12), type := 3, pos := "law.go:173", after := #[], guard := none }) (v := ?vdte162) rfl (by kernel_rfl) (by kernel_rfl) (by kernel_rfl) (fun _ _ _ h => h) (Or.inl ⟨by rfl, ?ydte162⟩) hk ?rdte162
          case ydte162 => (intro w hSw; (try dsimp only at hSw); go_simp; first | done | with_reducible rfl)
          simp only [Act.put, List.setIfInBounds_toArray, List.set_cons_zero, List.set_cons_succ]
          refine wpAnyH_take (i := 2) (oi := { dst := some 69, op := Op.indexAddr 47 (Operand.tmp 9) (Operand.tmp 68), type := 0, pos := "law.go:173", after := #[{ on := 1, ground := Ground.data }], guard := none }) (v := ?vdte163) rfl (by kernel_rfl) (by kernel_rfl) (by kernel_rfl) (fun _ _ _ h => h) (Or.inl ⟨by rfl, ?ydte163⟩) hk ?rdte163
          case ydte163 => (intro w hSw; (try dsimp only at hSw); go_simp; first | done | with_reducible rfl)
          simp only [Act.put, List.setIfInBounds_toArray, List.set_cons_zero, List.set_cons_succ]
          refine wpAnyH_take (i := 4) (oi := { dst := some 71, op := Op.move (Operand.tmp 13), type := 33, pos := "law.go:173", after := #[], guard := none }) (v := ?vdte164) rfl (by kernel_rfl) (by kernel_rfl) (by kernel_rfl) (fun _ _ _ h => h) (Or.inl ⟨by rfl, ?ydte164⟩) hk ?rdte164
          case ydte164 => (intro w hSw; (try dsimp only at hSw); go_simp; first | done | with_reducible rfl)
          simp only [Act.put, List.setIfInBounds_toArray, List.set_cons_zero, List.set_cons_succ]
          refine wpAnyH_take (i := 5) (oi := { dst := some 72, op := Op.slice 33 (Operand.tmp 71) none (some (Operand.const (Value.int IntKind.i64 64))) none, type := 33, pos := "law.go:173", after := #[{ on := 4, ground := Ground.data }], guard := none }) (v := ?vdte165) rfl (by kernel_rfl) (by kernel_rfl) (by kernel_rfl) (fun _ _ _ h => h) (Or.inl ⟨by rfl, ?ydte165⟩) hk ?rdte165
          case ydte165 => (intro w hSw; (try dsimp only at hSw); go_simp; first | done | with_reducible rfl)
          simp only [Act.put, List.setIfInBounds_toArray, List.set_cons_zero, List.set_cons_succ]
          refine wpAnyH_ready (rs := [3, 6]) (by decide +kernel) (by simp) ?_
          refine (AllReadyH.cons (o := { dst := some 70, op := Op.load 41 (Operand.tmp 69), type := 41, pos := "law.go:173", after := #[{ on := 2, ground := Ground.data }], guard := none }) rfl (fun K hK => ?_) (AllReadyH.cons (o := { dst := some 73, op := Op.buildSlice 41 1 #[(0, Operand.tmp 72)], type := 41, pos := "law.go:173", after := #[{ on := 5, ground := Ground.data }], guard := none }) rfl (fun K hK => ?_) AllReadyH.nil))
          · rw [if_pos (by rfl)]
            have cgs := hTS.cellp hp8 hvp.out
            go_simp
            clear cgs
            refine hK.out _ _ hk (fun _ => ?_)
            clear hK K
            try simp only [Act.put, List.setIfInBounds_toArray, List.set_cons_zero, List.set_cons_succ]
            refine wpAnyH_ready (rs := [6]) (by decide +kernel) (by simp) ?_
            refine AllReadyH.cons (o := { dst := some 73, op := Op.buildSlice 41 1 #[(0, Operand.tmp 72)], type := 41, pos := "law.go:173", after := #[{ on := 5, ground := Ground.data }], guard := none }) rfl (fun K hK => ?_) AllReadyH.nil
            go_simp
            have hbA : Below wk.heap.size wk (wk.alloc (.cells #[.slice (some ⟨rb, 0, none⟩) 64 capb] 33)) := (Below.refl _ _).alloc (Nat.le_refl _) _
            have hnew := World.news_of_block (heap_alloc_new wk (.cells #[.slice (some ⟨rb, 0, none⟩) 64 capb] 33))
            replace hTS := hTS.step hbA
            replace hrB := hrB.below hbA
            clear hbA
            generalize wk.heap.size = G at hnew ⊢
            generalize wk.alloc (.cells #[.slice (some ⟨rb, 0, none⟩) 64 capb] 33) = wk at hTS hrB hnew ⊢
            refine hK.out _ _ hk (fun _ => ?_)
            clear hK K
            try simp only [Act.put, List.setIfInBounds_toArray, List.set_cons_zero, List.set_cons_succ]
            refine wpAnyH_ready (rs := [7]) (by decide +kernel) (by simp) ?_
            refine AllReadyH.cons (o := { dst := some 74, op := Op.call { callee := Callee.builtin Builtin.append, args := #[Operand.tmp 70, Operand.tmp 73], argTypes := #[41, 41] }, type := 41, pos := "law.go:173", after := #[{ on := 3, ground := Ground.data }, { on := 6, ground := Ground.data }], guard := none }) rfl (fun K hK => ?_) AllReadyH.nil
            obtain ⟨xs, hxo, hxx⟩ := HSE.out hTS
            refine step_append_lies _ rfl (.tmp 70) (.tmp 73) 41 rfl 0 33 i0 (.slice none 0 0) 1 24 Try.underlying41 hi0 hz0 hz1 hz2 rfl (by decide) vp Ls.length xs rfl hxo ⟨G, 0, none⟩ 1 1 [.slice (some ⟨rb, 0, none⟩) 64 capb] rfl rfl hnew (by simp [Value.oneCell']) (by decide) (by unfold maxLen; omega) (by omega) (Nat.zero_le _) _ rfl ?_
            intro g4 cap4 w6 hown4 hgr4 hl4 hlt4
            obtain ⟨c2, f2, HTA⟩ := hTS.app hp8 hvp.out HLs.out hxx (by have := hxo.1; omega) hrB hcrb.out hrbw.out hgr4 hown4 hl4 hlt4
            clear hown4 hgr4 hl4 hlt4 hxx hxo hTS hrB hnew
            refine hK.out _ _ hk (fun _ => ?_)
            clear hK K
            try simp only [Act.put, List.setIfInBounds_toArray, List.set_cons_zero, List.set_cons_succ]
            refine wpAnyH_take (i := 8) (oi := { dst := some 75, op := Op.indexAddr 47 (Operand.tmp 9) (Operand.tmp 67), type := 0, pos := "law.go:173", after := #[{ on := 0, ground := Ground.data }, { on := 0, ground := Ground.phase }, { on := 1, ground := Ground.phase }, { on := 2, ground := Ground.phase }, { on := 3, ground := Ground.phase }, { on := 4, ground := Ground.phase }, { on := 5, ground := Ground.phase }, { on := 6, ground := Ground.phase }, { on := 7, ground := Ground.phase }], guard := none }) (v := ?vdte167) rfl (by kernel_rfl) (by kernel_rfl) (by kernel_rfl) (fun _ _ _ h => h) (Or.inl ⟨by rfl, ?ydte167⟩) hk ?rdte167
            case ydte167 => (intro w hSw; (try dsimp only at hSw); go_simp; first | done | with_reducible rfl)
            simp only [Act.put, List.setIfInBounds_toArray, List.set_cons_zero, List.set_cons_succ]
            refine wpAnyH_ready (rs := [9]) (by decide +kernel) (by simp) ?_
            refine AllReadyH.cons (o := { dst := none, op := Op.store 41 (Operand.tmp 75) (Operand.tmp 74), type := 0, pos := "law.go:173", after := #[{ on := 8, ground := Ground.data }, { on := 7, ground := Ground.data }, { on := 7, ground := Ground.chain }, { on := 0, ground := Ground.phase }, { on := 1, ground := Ground.phase }, { on := 2, ground := Ground.phase }, { on := 3, ground := Ground.phase }, { on := 4, ground := Ground.phase }, { on := 5, ground := Ground.phase }, { on := 6, ground := Ground.phase }, { on := 7, ground := Ground.phase }], guard := none }) rfl (fun K hK => ?_) AllReadyH.nil
            rw [if_pos (by rfl)]
            go_simp
            clear c2 f2
            refine hK.out _ _ hk (fun _ => ?_)
            clear hK K
            try simp only [Act.put, List.setIfInBounds_toArray, List.set_cons_zero, List.set_cons_succ]
            refine wpAnyH_done (by decide +kernel) ?_ _
            generalize w6.setCell ⟨gs, p, none⟩ (.slice (some ⟨g4, 0, none⟩) (Ls.length + 1) cap4) = wq at HTA ⊢
            go_wp2_with fail
            go_meet
            case rel => exact ⟨_, HTA.out⟩
          · go_simp
            have hbA : Below wk.heap.size wk (wk.alloc (.cells #[.slice (some ⟨rb, 0, none⟩) 64 capb] 33)) := (Below.refl _ _).alloc (Nat.le_refl _) _
            have hnew := World.news_of_block (heap_alloc_new wk (.cells #[.slice (some ⟨rb, 0, none⟩) 64 capb] 33))
            replace hTS := hTS.step hbA
            replace hrB := hrB.below hbA
            clear hbA
            generalize wk.heap.size = G at hnew ⊢
            generalize wk.alloc (.cells #[.slice (some ⟨rb, 0, none⟩) 64 capb] 33) = wk at hTS hrB hnew ⊢
            refine hK.out _ _ hk (fun _ => ?_)
            clear hK K
            try simp only [Act.put, List.setIfInBounds_toArray, List.set_cons_zero, List.set_cons_succ]
            refine wpAnyH_ready (rs := [3]) (by decide +kernel) (by simp) ?_
            refine AllReadyH.cons (o := { dst := some 70, op := Op.load 41 (Operand.tmp 69), type := 41, pos := "law.go:173", after := #[{ on := 2, ground := Ground.data }], guard := none }) rfl (fun K hK => ?_) AllReadyH.nil
            rw [if_pos (by rfl)]
            have cgs := hTS.cellp hp8 hvp.out
            go_simp
            clear cgs
            refine hK.out _ _ hk (fun _ => ?_)
            clear hK K
            try simp only [Act.put, List.setIfInBounds_toArray, List.set_cons_zero, List.set_cons_succ]
            refine wpAnyH_ready (rs := [7]) (by decide +kernel) (by simp) ?_
            refine AllReadyH.cons (o := { dst := some 74, op := Op.call { callee := Callee.builtin Builtin.append, args := #[Operand.tmp 70, Operand.tmp 73], argTypes := #[41, 41] }, type := 41, pos := "law.go:173", after := #[{ on := 3, ground := Ground.data }, { on := 6, ground := Ground.data }], guard := none }) rfl (fun K hK => ?_) AllReadyH.nil
            obtain ⟨xs, hxo, hxx⟩ := HSE.out hTS
            refine step_append_lies _ rfl (.tmp 70) (.tmp 73) 41 rfl 0 33 i0 (.slice none 0 0) 1 24 Try.underlying41 hi0 hz0 hz1 hz2 rfl (by decide) vp Ls.length xs rfl hxo ⟨G, 0, none⟩ 1 1 [.slice (some ⟨rb, 0, none⟩) 64 capb] rfl rfl hnew (by simp [Value.oneCell']) (by decide) (by unfold maxLen; omega) (by omega) (Nat.zero_le _) _ rfl ?_
            intro g4 cap4 w6 hown4 hgr4 hl4 hlt4
            obtain ⟨c2, f2, HTA⟩ := hTS.app hp8 hvp.out HLs.out hxx (by have := hxo.1; omega) hrB hcrb.out hrbw.out hgr4 hown4 hl4 hlt4
            clear hown4 hgr4 hl4 hlt4 hxx hxo hTS hrB hnew
            refine hK.out _ _ hk (fun _ => ?_)
            clear hK K
            try simp only [Act.put, List.setIfInBounds_toArray, List.set_cons_zero, List.set_cons_succ]
            refine wpAnyH_take (i := 8) (oi := { dst := some 75, op := Op.indexAddr 47 (Operand.tmp 9) (Operand.tmp 67), type := 0, pos := "law.go:173", after := #[{ on := 0, ground := Ground.data }, { on := 0, ground := Ground.phase }, { on := 1, ground := Ground.phase }, { on := 2, ground := Ground.phase }, { on := 3, ground := Ground.phase }, { on := 4, ground := Ground.phase }, { on := 5, ground := Ground.phase }, { on := 6, ground := Ground.phase }, { on := 7, ground := Ground.phase }], guard := none }) (v := ?vdte1610) rfl (by kernel_rfl) (by kernel_rfl) (by kernel_rfl) (fun _ _ _ h => h) (Or.inl ⟨by rfl, ?ydte1610⟩) hk ?rdte1610
            case ydte1610 => (intro w hSw; (try dsimp only at hSw); go_simp; first | done | with_reducible rfl)
            simp only [Act.put, List.setIfInBounds_toArray, List.set_cons_zero, List.set_cons_succ]
            refine wpAnyH_ready (rs := [9]) (by decide +kernel) (by simp) ?_
            refine AllReadyH.cons (o := { dst := none, op := Op.store 41 (Operand.tmp 75) (Operand.tmp 74), type := 0, pos := "law.go:173", after := #[{ on := 8, ground := Ground.data }, { on := 7, ground := Ground.data }, { on := 7, ground := Ground.chain }, { on := 0, ground := Ground.phase }, { on := 1, ground := Ground.phase }, { on := 2, ground := Ground.phase }, { on := 3, ground := Ground.phase }, { on := 4, ground := Ground.phase }, { on := 5, ground := Ground.phase }, { on := 6, ground := Ground.phase }, { on := 7, ground := Ground.phase }], guard := none }) rfl (fun K hK => ?_) AllReadyH.nil
            rw [if_pos (by rfl)]
            go_simp
            clear c2 f2
            refine hK.out _ _ hk (fun _ => ?_)
            clear hK K
            try simp only [Act.put, List.setIfInBounds_toArray, List.set_cons_zero, List.set_cons_succ]
            refine wpAnyH_done (by decide +kernel) ?_ _
            generalize w6.setCell ⟨gs, p, none⟩ (.slice (some ⟨g4, 0, none⟩) (Ls.length + 1) cap4) = wq at HTA ⊢
            go_wp2_with fail
            go_meet
            case rel => exact ⟨_, HTA.out⟩
        case rest =>
          clear hTS5 hrB hi0 hz0 hz1 hz2 HSE
          obtain ⟨V', col', hTS⟩ := hcut
          rw [HSM5.out] at hTS
          go_wp2
          go_roundw
          case rel => exact ⟨j + 1, c + 1, by omega, by omega, by go_num, by go_num, col', s5, V', hTS, h85, HFE5, hOc5⟩
          case measure => simp [intOf]; omega
      · have g0 : (kd == 0) = false := by simpa using h0
        clear h0 hbt k1 k2
        go_wp2
        go_roundw
        case rel => exact ⟨j + 1, c, by omega, by omega, by go_num, rfl, col, s, V, hTS, h8, HFE, hOc⟩
        case measure => simp [intOf]; omega
    · obtain rfl : j = m := by omega
      obtain ⟨w9, hw9⟩ : ∃ w9, w9 = wr := ⟨_, rfl⟩
      subst hw9
      have hOc2 : c ≤ 150 := by omega
      have HF0 : Bx (decide (c ≤ lk) = fullB c lk KK 0) := ⟨(fullB_zero c lk KK).symm⟩
      go_upto_block 2 with fail
      go_cut [14] from 82 to 99 (fun fv wx => ∃ fb, fv = .bool fb ∧ Bx (fb = true → ∀ i, i < c → KK.getD i false = true) ∧ wx = w9)
      case first =>
        go_wp2_with fail
        go_loopw [14, 15] (fun fv i wr => ∃ t : Nat, t ≤ c ∧ t ≤ lk ∧ i = .int .i64 t ∧ fv = .bool (fullB c lk KK t) ∧ wr = w9) (fun _ i _ => c - (intOf i).toNat)
        case atStart => exact ⟨0, Nat.zero_le _, Nat.zero_le _, rfl, by rw [← HF0.out], rfl⟩
        case round =>
          obtain ⟨t, ht1, ht2, rfl, hfv, hwr9⟩ := hrel
          subst hwr9
          clear HF0
          replace hfv : u14 = .bool (fullB c lk KK t) := hfv
          subst hfv
          by_cases htc : t < c
          · have htcI : decide ((t : Int) < (c : Int)) = true := by simp; omega
            by_cases htl : t < lk
            · have htlI : decide ((t : Int) < (lk : Int)) = true := by simp; omega
              have htlI2 : (t : Int) < (lk : Int) := by omega
              obtain ⟨kb, ko, rfl, hkbl, hkcc⟩ := (HKW.out.below hTS.low).spot (by omega)
              have hkcell := hkcc t htl
              have HFN := fullB_next c lk KK t
              have HFNB : Bx _ := ⟨HFN⟩
              generalize KK.getD t false = kv at hkcell HFNB
              clear HFN hkcc
              cases hfb : fullB c lk KK t with
              | true =>
                rw [hfb] at HFNB
                clear hfb
                go_wp2
                go_roundw
                case rel => exact ⟨t + 1, by omega, by omega, by go_num, by rw [HFNB.out]; rfl, by first | rfl | trivial⟩
                case measure => simp [intOf]; omega
              | false =>
                rw [hfb] at HFNB
                clear hfb
                go_wp2
                go_roundw
                case rel => exact ⟨t + 1, by omega, by omega, by go_num, by rw [HFNB.out]; rfl, by first | rfl | trivial⟩
                case measure => simp [intOf]; omega
            · have htlI : decide ((t : Int) < (lk : Int)) = false := by simp; omega
              have HFB : Bx (fullB c lk KK t = true → ∀ i, i < c → KK.getD i false = true) := ⟨fun hh => fullB_all hh (.inr (by omega))⟩
              generalize fullB c lk KK t = fb at HFB ⊢
              go_wp2
              go_meet
              case rel => exact ⟨fb, rfl, HFB, by first | rfl | trivial⟩
          · have htcI : decide ((t : Int) < (c : Int)) = false := by simp; omega
            have HFB : Bx (fullB c lk KK t = true → ∀ i, i < c → KK.getD i false = true) := ⟨fun hh => fullB_all hh (.inl (by omega))⟩
            generalize fullB c lk KK t = fb at HFB ⊢
            go_wp2
            go_meet
            case rel => exact ⟨fb, rfl, HFB, by first | rfl | trivial⟩
      case rest =>
        clear HF0
        obtain ⟨fb, rfl, HFB, hwc9⟩ := hcut
        subst hwc9
        have hOl9 : s.O.length ≤ 1000000 := by omega
        have hcr8 : (s.cr KK).F.length = 8 := by show (app s.F _).length = 8; rw [app_len]; exact h8.n
        have HOK : Bx (∀ i, i < 8 → okB ((s.cr KK).now.getD i []) (F0.getD i []) (sel s.O i) fb (sel s.O i).length = true) := ⟨fun i hi => by
          rw [okB_iff]
          have e : (s.cr KK).now.getD i [] = lastO (kpt s.O KK) i (F0.getD i []) := by
            show (app (app s.F (kpt s.O KK)) []).getD i [] = _
            rw [← HFE.out]
            exact app_getD s.F (kpt s.O KK) i (by rw [h8.n]; exact hi)
          rw [e]
          exact okT_all s.O KK i (F0.getD i []) fb (fun hh => by rw [hOc]; exact HFB.out hh)⟩
        go_wp2_with fail
        refine (open_any g _ s _ hTS.d).mono ?_
        rintro e w' ⟨rfl, rfl⟩
        rw [hOc]
        go_wp2_with fail
        refine (crash_any g _ s a2 lk cap2 KK _ hTS.d (HKW.out.below hTS.low) (far_bls HKW.out (fun k (hk : col k = 1) => hTS.ge k (by omega))) hOl9).mono ?_
        rintro e w10 ⟨rfl, hD10, hkp10⟩
        obtain ⟨col10, hTS10, _⟩ := hTS.callD hD10 (Did.same hkp10)
        have hcO : (s.cr KK).O.length = 0 := rfl
        have hcF : (s.cr KK).off = false := rfl
        obtain ⟨OO, hOO⟩ : ∃ OO, OO = s.O := ⟨_, rfl⟩
        rw [← hOO] at hTS10 HOK
        have HOO : Bx (OO.length ≤ 1000) := ⟨by rw [hOO]; omega⟩
        generalize s.cr KK = sc at hTS10 hcO hcF hcr8 HOK
        clear hTS hD10 hkp10 hOl9 hOO HFB
        go_wp2_with fail
        refine (open_any g _ sc _ hTS10.d).mono ?_
        rintro e w' ⟨rfl, rfl⟩
        rw [hcO]
        go_wp2_with fail
        refine (all_any g _ sc _ hTS10.d hcr8 hcF).mono ?_
        rintro e w11 ⟨a5, c5, rfl, hX5, hb11⟩
        have hTS11 := hTS10.step hb11
        have HN : Bx _ := ⟨hX5.txs⟩
        have HW : Bx _ := ⟨hTS11.was.txs⟩
        have HS : Bx (∀ p, p < 8 → ∃ av cv, w11.cell? ⟨gs, p, none⟩ = some (.slice av (sel OO p).length cv) ∧ Txs w11 av (sel OO p).length cv (sel OO p)) := ⟨fun p hp => by
          obtain ⟨av, cv, e1, e2⟩ := (hTS11.sent p hp).txs
          rw [selT_get OO p hp] at e1 e2
          exact ⟨av, cv, by rw [← e1]; exact hTS11.cellp hp rfl, e2⟩⟩
        have hlow := hTS11.low
        have HLO : Bx _ := ⟨hlow⟩
        have HSL : Bx (∀ p, (sel OO p).length ≤ 1000) := ⟨fun p => by
          have h1 : (sel OO p).length ≤ OO.length := by unfold sel; rw [List.length_map]; exact List.length_filter_le _ _
          have := HOO.out
          omega⟩
        clear hTS10 hTS11 hb11 hX5 hlow hcO hcF hcr8 HOO
        generalize sc.now = NW at HN HOK
        go_wp2
        go_loopw [17] (fun i wr => ∃ p q : Nat, p ≤ 8 ∧ i = .int .i64 p ∧ wr = w11.drewN q) (fun i _ => 8 - (intOf i).toNat)
        case atStart => exact ⟨0, 0, Nat.zero_le _, rfl, rfl⟩
        case round =>
          obtain ⟨p, q, hp, rfl, hwr⟩ := hrel
          have HQ : Bx (wr = w11.drewN q) := ⟨hwr⟩
          by_cases hp8 : p < 8
          · have hpI : (p : Int) < 8 := by omega
            obtain ⟨b1, o1, ea, _, h1⟩ := HN.out.spot (by decide)
            obtain ⟨b2, o2, eb, _, h2⟩ := HW.out.spot (by decide)
            subst ea
            subst eb
            obtain ⟨ai, li, ci, r1, t1⟩ := h1 p hp8
            obtain ⟨aj, lj, cj, r2, t2⟩ := h2 p hp8
            obtain ⟨av, cv, r3, t3⟩ := HS.out p hp8
            have hok := HOK.out p hp8
            have hSl := HSL.out p
            have hcv1 := t3.le_cap
            have hcv2 := t3.cap_le
            unfold maxLen at hcv2
            generalize hnw : NW.getD p [] = nw at t1 hok
            generalize hws : F0.getD p [] = ws at t2 hok
            generalize hSS : sel OO p = S at r3 t3 hok hSl hcv1
            clear hnw hws hSS h1 h2
            have r1w : wr.cell? ⟨b1, o1 + p, none⟩ = some (.slice ai li ci) := by rw [hwr]; exact r1
            have r2w : wr.cell? ⟨b2, o2 + p, none⟩ = some (.slice aj lj cj) := by rw [hwr]; exact r2
            have r3w : wr.cell? ⟨gs, p, none⟩ = some (.slice av S.length cv) := by rw [hwr]; exact r3
            have t1w : Bts wr ai li ci nw := by rw [hwr]; exact t1.drewN q
            have t2w : Bts wr aj lj cj ws := by rw [hwr]; exact t2.drewN q
            clear hwr
            have HR1 : Bx _ := ⟨r1⟩
            have HR3 : Bx _ := ⟨r3⟩
            have HT1 : Bx _ := ⟨t1⟩
            have HT3 : Bx _ := ⟨t3⟩
            have HOKE : Bx (okB nw ws S fb S.length = true) := ⟨hok⟩
            clear r1 r2 r3 t1 t2 t3 hok
            obtain ⟨lv, hlv⟩ : ∃ lv, lv = S.length := ⟨_, rfl⟩
            have HLV : Bx (lv = S.length) := ⟨hlv⟩
            rw [← hlv] at r3w hSl hcv1 HR3 HT3
            clear hlv
            go_upto_region 29 with fail
            have hk0 : wr.drew.cell? ⟨b1, o1 + p, none⟩ = some (.slice ai li ci) ∧ wr.drew.cell? ⟨b2, o2 + p, none⟩ = some (.slice aj lj cj) ∧ wr.drew.cell? ⟨gs, p, none⟩ = some (.slice av lv cv) ∧ Bts wr.drew ai li ci nw ∧ Bts wr.drew aj lj cj ws ∧ Hid (∃ q2, wr.drew = w11.drewN q2) := ⟨r1w, r2w, r3w, t1w.drewN 1, t2w.drewN 1, ⟨q + 1, by rw [HQ.out]; rfl⟩⟩
            clear r1w r2w r3w t1w t2w
            go_cut [18] from 121 to 140 (fun ov wx => ∃ q2, ov = .bool (okB nw ws S fb 0) ∧ wx = w11.drewN q2)
            case first =>
              by_cases hE : nw = ws
              · have hd : decide (nw = ws) = true := by simpa using hE
                cases fb with
                | false =>
                  have HV : Bx (okB nw ws S false 0 = true) := ⟨by unfold okB; rw [hd]; rfl⟩
                  have hk := hk0
                  clear hE hk0
                  refine wp_region_held_drew (S := fun W => W.cell? ⟨b1, o1 + p, none⟩ = some (.slice ai li ci) ∧ W.cell? ⟨b2, o2 + p, none⟩ = some (.slice aj lj cj) ∧ W.cell? ⟨gs, p, none⟩ = some (.slice av lv cv) ∧ Bts W ai li ci nw ∧ Bts W aj lj cj ws ∧ Hid (∃ q2, W = w11.drewN q2)) (by kernel_rfl) hk (fun _ => ?_)
                  generalize wr.drew = wk at hk ⊢
                  refine wpAnyH_take (i := 0) (oi := { dst := some 121, op := Op.move (Operand.tmp 16), type := 41, pos := "law.go:186", after := #[], guard := none }) (v := ?vdte29b1) rfl (by kernel_rfl) (by kernel_rfl) (by kernel_rfl) (fun _ _ _ h => h) (Or.inl ⟨by rfl, ?ydte29b1⟩) hk ?rdte29b1
                  case ydte29b1 => (intro w hSw; (try dsimp only at hSw); go_simp; first | done | with_reducible rfl)
                  simp only [Act.put, List.setIfInBounds_toArray, List.set_cons_zero, List.set_cons_succ]
                  refine wpAnyH_take (i := 1) (oi := { dst := some 122, op := Op.move (Operand.tmp 17), type := 3, pos := "law.go:186", after := #[], guard := none }) (v := ?vdte29b2) rfl (by kernel_rfl) (by kernel_rfl) (by kernel_rfl) (fun _ _ _ h => h) (Or.inl ⟨by rfl, ?ydte29b2⟩) hk ?rdte29b2
                  case ydte29b2 => (intro w hSw; (try dsimp only at hSw); go_simp; first | done | with_reducible rfl)
                  simp only [Act.put, List.setIfInBounds_toArray, List.set_cons_zero, List.set_cons_succ]
                  refine wpAnyH_take (i := 2) (oi := { dst := some 123, op := Op.indexAddr 41 (Operand.tmp 121) (Operand.tmp 122), type := 0, pos := "law.go:186", after := #[{ on := 0, ground := Ground.data }, { on := 1, ground := Ground.data }], guard := none }) (v := ?vdte29b3) rfl (by kernel_rfl) (by kernel_rfl) (by kernel_rfl) (fun _ _ _ h => h) (Or.inl ⟨by rfl, ?ydte29b3⟩) hk ?rdte29b3
                  case ydte29b3 => (intro w hSw; (try dsimp only at hSw); go_simp; first | done | with_reducible rfl)
                  simp only [Act.put, List.setIfInBounds_toArray, List.set_cons_zero, List.set_cons_succ]
                  refine wpAnyH_take (i := 3) (oi := { dst := some 124, op := Op.load 33 (Operand.tmp 123), type := 33, pos := "law.go:186", after := #[{ on := 2, ground := Ground.data }], guard := none }) (v := ?vdte29b4) rfl (by kernel_rfl) (by kernel_rfl) (by kernel_rfl) (fun _ _ _ h => h) (Or.inl ⟨by rfl, ?ydte29b4⟩) hk ?rdte29b4
                  case ydte29b4 => (intro w hSw; have hcw := hSw.1; clear hSw; go_simp; first | done | with_reducible rfl)
                  simp only [Act.put, List.setIfInBounds_toArray, List.set_cons_zero, List.set_cons_succ]
                  refine wpAnyH_take (i := 4) (oi := { dst := some 125, op := Op.move (Operand.tmp 8), type := 41, pos := "law.go:186", after := #[], guard := none }) (v := ?vdte29b5) rfl (by kernel_rfl) (by kernel_rfl) (by kernel_rfl) (fun _ _ _ h => h) (Or.inl ⟨by rfl, ?ydte29b5⟩) hk ?rdte29b5
                  case ydte29b5 => (intro w hSw; (try dsimp only at hSw); go_simp; first | done | with_reducible rfl)
                  simp only [Act.put, List.setIfInBounds_toArray, List.set_cons_zero, List.set_cons_succ]
                  refine wpAnyH_take (i := 5) (oi := { dst := some 126, op := Op.move (Operand.tmp 17), type := 3, pos := "law.go:186", after := #[], guard := none }) (v := ?vdte29b6) rfl (by kernel_rfl) (by kernel_rfl) (by kernel_rfl) (fun _ _ _ h => h) (Or.inl ⟨by rfl, ?ydte29b6⟩) hk ?rdte29b6
                  case ydte29b6 => (intro w hSw; (try dsimp only at hSw); go_simp; first | done | with_reducible rfl)
                  simp only [Act.put, List.setIfInBounds_toArray, List.set_cons_zero, List.set_cons_succ]
                  refine wpAnyH_take (i := 6) (oi := { dst := some 127, op := Op.indexAddr 41 (Operand.tmp 125) (Operand.tmp 126), type := 0, pos := "law.go:186", after := #[{ on := 4, ground := Ground.data }, { on := 5, ground := Ground.data }], guard := none }) (v := ?vdte29b7) rfl (by kernel_rfl) (by kernel_rfl) (by kernel_rfl) (fun _ _ _ h => h) (Or.inl ⟨by rfl, ?ydte29b7⟩) hk ?rdte29b7
                  case ydte29b7 => (intro w hSw; (try dsimp only at hSw); go_simp; first | done | with_reducible rfl)
                  simp only [Act.put, List.setIfInBounds_toArray, List.set_cons_zero, List.set_cons_succ]
                  refine wpAnyH_take (i := 7) (oi := { dst := some 128, op := Op.load 33 (Operand.tmp 127), type := 33, pos := "law.go:186", after := #[{ on := 6, ground := Ground.data }], guard := none }) (v := ?vdte29b8) rfl (by kernel_rfl) (by kernel_rfl) (by kernel_rfl) (fun _ _ _ h => h) (Or.inl ⟨by rfl, ?ydte29b8⟩) hk ?rdte29b8
                  case ydte29b8 => (intro w hSw; have hcw := hSw.2.1; clear hSw; go_simp; first | done | with_reducible rfl)
                  simp only [Act.put, List.setIfInBounds_toArray, List.set_cons_zero, List.set_cons_succ]
                  refine wpAnyH_ready (rs := [8]) (by decide +kernel) (by simp) ?_
                  refine AllReadyH.cons (o := { dst := some 129, op := Op.call { callee := Callee.value (Operand.func 24), args := #[Operand.tmp 124, Operand.tmp 128], argTypes := #[33, 33] }, type := 4, pos := "law.go:186", after := #[{ on := 3, ground := Ground.data }, { on := 7, ground := Ground.data }], guard := none }) rfl (fun K hK => ?_) AllReadyH.nil
                  go_simp
                  refine (same_any ai aj li lj ci cj nw ws _ hk.2.2.2.1 hk.2.2.2.2.1).mono ?_
                  rintro e1 w8 ⟨rfl, q8, hq8⟩
                  rw [hd]
                  replace hk : w8.cell? ⟨b1, o1 + p, none⟩ = some (.slice ai li ci) ∧ w8.cell? ⟨b2, o2 + p, none⟩ = some (.slice aj lj cj) ∧ w8.cell? ⟨gs, p, none⟩ = some (.slice av lv cv) ∧ Bts w8 ai li ci nw ∧ Bts w8 aj lj cj ws ∧ Hid (∃ q2, w8 = w11.drewN q2) := by
                    rw [hq8]
                    refine ⟨hk.1, hk.2.1, hk.2.2.1, hk.2.2.2.1.drewN q8, hk.2.2.2.2.1.drewN q8, ?_⟩
                    obtain ⟨q9, hq9⟩ := hk.2.2.2.2.2.out
                    exact ⟨q9 + q8, by rw [hq9]; simp⟩
                  clear hq8
                  refine hK.out _ _ hk (fun _ => ?_)
                  clear hK K
                  try simp only [Act.put, List.setIfInBounds_toArray, List.set_cons_zero, List.set_cons_succ]
                  refine wpAnyH_take (i := 9) (oi := { dst := some 130, op := Op.move (Operand.tmp 129), type := 4, pos := "law.go:186", after := #[{ on := 8, ground := Ground.data }, { on := 8, ground := Ground.chain }], guard := none }) (v := ?vdte29b9) rfl (by kernel_rfl) (by kernel_rfl) (by kernel_rfl) (fun _ _ _ h => h) (Or.inl ⟨by rfl, ?ydte29b9⟩) hk ?rdte29b9
                  case ydte29b9 => (intro w hSw; (try dsimp only at hSw); go_simp; first | done | with_reducible rfl)
                  simp only [Act.put, List.setIfInBounds_toArray, List.set_cons_zero, List.set_cons_succ]
                  refine wpAnyH_take (i := 10) (oi := { dst := some 131, op := Op.move (Operand.tmp 14), type := 4, pos := "law.go:186", after := #[{ on := 9, ground := Ground.guard }], guard := some (9, true) }) (v := ?vdte29b10) rfl (by kernel_rfl) (by kernel_rfl) (by kernel_rfl) (fun _ _ _ h => h) (Or.inl ⟨by rfl, ?ydte29b10⟩) hk ?rdte29b10
                  case ydte29b10 => (intro w hSw; (try dsimp only at hSw); go_simp; first | done | with_reducible rfl)
                  simp only [Act.put, List.setIfInBounds_toArray, List.set_cons_zero, List.set_cons_succ]
                  refine wpAnyH_take (i := 11) (oi := { dst := some 132, op := Op.move (Operand.tmp 131), type := 4, pos := "law.go:186", after := #[{ on := 10, ground := Ground.data }, { on := 9, ground := Ground.chain }, { on := 9, ground := Ground.guard }], guard := some (9, true) }) (v := ?vdte29b11) rfl (by kernel_rfl) (by kernel_rfl) (by kernel_rfl) (fun _ _ _ h => h) (Or.inl ⟨by rfl, ?ydte29b11⟩) hk ?rdte29b11
                  case ydte29b11 => (intro w hSw; (try dsimp only at hSw); go_simp; first | done | with_reducible rfl)
                  simp only [Act.put, List.setIfInBounds_toArray, List.set_cons_zero, List.set_cons_succ]
                  refine wpAnyH_take (i := 12) (oi := { dst := some 133, op := Op.move (Operand.tmp 17), type := 3, pos := "law.go:186", after := #[{ on := 11, ground := Ground.guard }], guard := some (11, true) }) (v := undef) rfl (by kernel_rfl) (by kernel_rfl) (by kernel_rfl) (fun _ _ _ h => h) (Or.inr ⟨by rfl, rfl⟩) hk ?_
                  simp only [Act.put, List.setIfInBounds_toArray, List.set_cons_zero, List.set_cons_succ]
                  refine wpAnyH_take (i := 13) (oi := { dst := some 134, op := Op.indexAddr 47 (Operand.tmp 9) (Operand.tmp 133), type := 0, pos := "law.go:186", after := #[{ on := 12, ground := Ground.data }, { on := 11, ground := Ground.guard }], guard := some (11, true) }) (v := undef) rfl (by kernel_rfl) (by kernel_rfl) (by kernel_rfl) (fun _ _ _ h => h) (Or.inr ⟨by rfl, rfl⟩) hk ?_
                  simp only [Act.put, List.setIfInBounds_toArray, List.set_cons_zero, List.set_cons_succ]
                  refine wpAnyH_take (i := 14) (oi := { dst := some 135, op := Op.load 41 (Operand.tmp 134), type := 41, pos := "law.go:186", after := #[{ on := 13, ground := Ground.data }, { on := 11, ground := Ground.guard }], guard := some (11, true) }) (v := undef) rfl (by kernel_rfl) (by kernel_rfl) (by kernel_rfl) (fun _ _ _ h => h) (Or.inr ⟨by rfl, rfl⟩) hk ?_
                  simp only [Act.put, List.setIfInBounds_toArray, List.set_cons_zero, List.set_cons_succ]
                  refine wpAnyH_take (i := 15) (oi := { dst := some 136, op := Op.call { callee := Callee.builtin Builtin.len, args := #[Operand.tmp 135], argTypes := #[41] }, type := 3, pos := "law.go:186", after := #[{ on := 14, ground := Ground.data }, { on := 11, ground := Ground.guard }], guard := some (11, true) }) (v := undef) rfl (by kernel_rfl) (by kernel_rfl) (by kernel_rfl) (fun _ _ _ h => h) (Or.inr ⟨by rfl, rfl⟩) hk ?_
                  simp only [Act.put, List.setIfInBounds_toArray, List.set_cons_zero, List.set_cons_succ]
                  refine wpAnyH_take (i := 16) (oi := { dst := some 137, op := Op.binOp BinOp.gtr 3 (Operand.tmp 136) (Operand.const (Value.int IntKind.i64 0)) 3, type := 4, pos := "law.go:186", after := #[{ on := 15, ground := Ground.data }, { on := 11, ground := Ground.guard }], guard := some (11, true) }) (v := undef) rfl (by kernel_rfl) (by kernel_rfl) (by kernel_rfl) (fun _ _ _ h => h) (Or.inr ⟨by rfl, rfl⟩) hk ?_
                  simp only [Act.put, List.setIfInBounds_toArray, List.set_cons_zero, List.set_cons_succ]
                  refine wpAnyH_take (i := 17) (oi := { dst := some 138, op := Op.pick (Operand.tmp 132) (Operand.tmp 137) (Operand.const (Value.bool false)), type := 4, pos := "law.go:186", after := #[{ on := 11, ground := Ground.data }, { on := 16, ground := Ground.data }, { on := 9, ground := Ground.guard }], guard := some (9, true) }) (v := ?vdte29b12) rfl (by kernel_rfl) (by kernel_rfl) (by kernel_rfl) (fun _ _ _ h => h) (Or.inl ⟨by rfl, ?ydte29b12⟩) hk ?rdte29b12
                  case ydte29b12 => (intro w hSw; (try dsimp only at hSw); go_simp; first | done | with_reducible rfl)
                  simp only [Act.put, List.setIfInBounds_toArray, List.set_cons_zero, List.set_cons_succ]
                  refine wpAnyH_take (i := 18) (oi := { dst := some 139, op := Op.unOp UnOp.not 4 (Operand.tmp 138), type := 4, pos := "law.go:186", after := #[{ on := 17, ground := Ground.data }, { on := 9, ground := Ground.guard }], guard := some (9, true) }) (v := ?vdte29b13) rfl (by kernel_rfl) (by kernel_rfl) (by kernel_rfl) (fun _ _ _ h => h) (Or.inl ⟨by rfl, ?ydte29b13⟩) hk ?rdte29b13
                  case ydte29b13 => (intro w hSw; (try dsimp only at hSw); go_simp; first | done | with_reducible rfl)
                  simp only [Act.put, List.setIfInBounds_toArray, List.set_cons_zero, List.set_cons_succ]
                  refine wpAnyH_take (i := 19) (oi := { dst := some 140, op := Op.pick (Operand.tmp 130) (Operand.tmp 139) (Operand.const (Value.bool false)), type := 4, pos := "law.go:186", after := #[{ on := 9, ground := Ground.data }, { on := 18, ground := Ground.data }], guard := none }) (v := ?vdte29b14) rfl (by kernel_rfl) (by kernel_rfl) (by kernel_rfl) (fun _ _ _ h => h) (Or.inl ⟨by rfl, ?ydte29b14⟩) hk ?rdte29b14
                  case ydte29b14 => (intro w hSw; (try dsimp only at hSw); go_simp; first | done | with_reducible rfl)
                  simp only [Act.put, List.setIfInBounds_toArray, List.set_cons_zero, List.set_cons_succ]
                  refine wpAnyH_take (i := 20) (oi := { dst := some 18, op := Op.assign (Operand.tmp 140), type := 4, pos := "law.go:186", after := #[{ on := 19, ground := Ground.data }, { on := 11, ground := Ground.chain }, { on := 0, ground := Ground.phase }, { on := 1, ground := Ground.phase }, { on := 2, ground := Ground.phase }, { on := 3, ground := Ground.phase }, { on := 4, ground := Ground.phase }, { on := 5, ground := Ground.phase }, { on := 6, ground := Ground.phase }, { on := 7, ground := Ground.phase }, { on := 8, ground := Ground.phase }, { on := 9, ground := Ground.phase }, { on := 10, ground := Ground.phase }, { on := 11, ground := Ground.phase }, { on := 12, ground := Ground.phase }, { on := 13, ground := Ground.phase }, { on := 14, ground := Ground.phase }, { on := 15, ground := Ground.phase }, { on := 16, ground := Ground.phase }, { on := 17, ground := Ground.phase }, { on := 18, ground := Ground.phase }, { on := 19, ground := Ground.phase }], guard := none }) (v := ?vdte29b15) rfl (by kernel_rfl) (by kernel_rfl) (by kernel_rfl) (fun _ _ _ h => h) (Or.inl ⟨by rfl, ?ydte29b15⟩) hk ?rdte29b15
                  case ydte29b15 => (intro w hSw; (try dsimp only at hSw); go_simp; first | done | with_reducible rfl)
                  simp only [Act.put, List.setIfInBounds_toArray, List.set_cons_zero, List.set_cons_succ]
                  refine wpAnyH_done (by decide +kernel) ?_ _
                  obtain ⟨q9, hq9⟩ := hk.2.2.2.2.2.out
                  clear hk
                  go_wp2_with fail
                  go_meet
                  case rel => exact ⟨q9, by rw [HV.out], hq9⟩
                | true =>
                  have HV : Bx (okB nw ws S true 0 = !decide (0 < lv)) := ⟨by unfold okB; rw [hd, ← HLV.out]; rfl⟩
                  have hk := hk0
                  clear hE hk0
                  refine wp_region_held_drew (S := fun W => W.cell? ⟨b1, o1 + p, none⟩ = some (.slice ai li ci) ∧ W.cell? ⟨b2, o2 + p, none⟩ = some (.slice aj lj cj) ∧ W.cell? ⟨gs, p, none⟩ = some (.slice av lv cv) ∧ Bts W ai li ci nw ∧ Bts W aj lj cj ws ∧ Hid (∃ q2, W = w11.drewN q2)) (by kernel_rfl) hk (fun _ => ?_)
                  generalize wr.drew = wk at hk ⊢
                  refine wpAnyH_take (i := 0) (oi := { dst := some 121, op := Op.move (Operand.tmp 16), type := 41, pos := "law.go:186", after := #[], guard := none }) (v := ?vdte29c1) rfl (by kernel_rfl) (by kernel_rfl) (by kernel_rfl) (fun _ _ _ h => h) (Or.inl ⟨by rfl, ?ydte29c1⟩) hk ?rdte29c1
                  case ydte29c1 => (intro w hSw; (try dsimp only at hSw); go_simp; first | done | with_reducible rfl)
                  simp only [Act.put, List.setIfInBounds_toArray, List.set_cons_zero, List.set_cons_succ]
                  refine wpAnyH_take (i := 1) (oi := { dst := some 122, op := Op.move (Operand.tmp 17), type := 3, pos := "law.go:186", after := #[], guard := none }) (v := ?vdte29c2) rfl (by kernel_rfl) (by kernel_rfl) (by kernel_rfl) (fun _ _ _ h => h) (Or.inl ⟨by rfl, ?ydte29c2⟩) hk ?rdte29c2
                  case ydte29c2 => (intro w hSw; (try dsimp only at hSw); go_simp; first | done | with_reducible rfl)
                  simp only [Act.put, List.setIfInBounds_toArray, List.set_cons_zero, List.set_cons_succ]
                  refine wpAnyH_take (i := 2) (oi := { dst := some 123, op := Op.indexAddr 41 (Operand.tmp 121) (Operand.tmp 122), type := 0, pos := "law.go:186", after := #[{ on := 0, ground := Ground.data }, { on := 1, ground := Ground.data }], guard := none }) (v := ?vdte29c3) rfl (by kernel_rfl) (by kernel_rfl) (by kernel_rfl) (fun _ _ _ h => h) (Or.inl ⟨by rfl, ?ydte29c3⟩) hk ?rdte29c3
                  case ydte29c3 => (intro w hSw; (try dsimp only at hSw); go_simp; first | done | with_reducible rfl)
                  simp only [Act.put, List.setIfInBounds_toArray, List.set_cons_zero, List.set_cons_succ]
                  refine wpAnyH_take (i := 3) (oi := { dst := some 124, op := Op.load 33 (Operand.tmp 123), type := 33, pos := "law.go:186", after := #[{ on := 2, ground := Ground.data }], guard := none }) (v := ?vdte29c4) rfl (by kernel_rfl) (by kernel_rfl) (by kernel_rfl) (fun _ _ _ h => h) (Or.inl ⟨by rfl, ?ydte29c4⟩) hk ?rdte29c4
                  case ydte29c4 => (intro w hSw; have hcw := hSw.1; clear hSw; go_simp; first | done | with_reducible rfl)
                  simp only [Act.put, List.setIfInBounds_toArray, List.set_cons_zero, List.set_cons_succ]
                  refine wpAnyH_take (i := 4) (oi := { dst := some 125, op := Op.move (Operand.tmp 8), type := 41, pos := "law.go:186", after := #[], guard := none }) (v := ?vdte29c5) rfl (by kernel_rfl) (by kernel_rfl) (by kernel_rfl) (fun _ _ _ h => h) (Or.inl ⟨by rfl, ?ydte29c5⟩) hk ?rdte29c5
                  case ydte29c5 => (intro w hSw; (try dsimp only at hSw); go_simp; first | done | with_reducible rfl)
                  simp only [Act.put, List.setIfInBounds_toArray, List.set_cons_zero, List.set_cons_succ]
                  refine wpAnyH_take (i := 5) (oi := { dst := some 126, op := Op.move (Operand.tmp 17), type := 3, pos := "law.go:186", after := #[], guard := none }) (v := ?vdte29c6) rfl (by kernel_rfl) (by kernel_rfl) (by kernel_rfl) (fun _ _ _ h => h) (Or.inl ⟨by rfl, ?ydte29c6⟩) hk ?rdte29c6
                  case ydte29c6 => (intro w hSw; (try dsimp only at hSw); go_simp; first | done | with_reducible rfl)
                  simp only [Act.put, List.setIfInBounds_toArray, List.set_cons_zero, List.set_cons_succ]
                  refine wpAnyH_take (i := 6) (oi := { dst := some 127, op := Op.indexAddr 41 (Operand.tmp 125) (Operand.tmp 126), type := 0, pos := "law.go:186", after := #[{ on := 4, ground := Ground.data }, { on := 5, ground := Ground.data }], guard := none }) (v := ?vdte29c7) rfl (by kernel_rfl) (by kernel_rfl) (by kernel_rfl) (fun _ _ _ h => h) (Or.inl ⟨by rfl, ?ydte29c7⟩) hk ?rdte29c7
                  case ydte29c7 => (intro w hSw; (try dsimp only at hSw); go_simp; first | done | with_reducible rfl)
                  simp only [Act.put, List.setIfInBounds_toArray, List.set_cons_zero, List.set_cons_succ]
                  refine wpAnyH_take (i := 7) (oi := { dst := some 128, op := Op.load 33 (Operand.tmp 127), type := 33, pos := "law.go:186", after := #[{ on := 6, ground := Ground.data }], guard := none }) (v := ?vdte29c8) rfl (by kernel_rfl) (by kernel_rfl) (by kernel_rfl) (fun _ _ _ h => h) (Or.inl ⟨by rfl, ?ydte29c8⟩) hk ?rdte29c8
                  case ydte29c8 => (intro w hSw; have hcw := hSw.2.1; clear hSw; go_simp; first | done | with_reducible rfl)
                  simp only [Act.put, List.setIfInBounds_toArray, List.set_cons_zero, List.set_cons_succ]
                  refine wpAnyH_ready (rs := [8]) (by decide +kernel) (by simp) ?_
                  refine AllReadyH.cons (o := { dst := some 129, op := Op.call { callee := Callee.value (Operand.func 24), args := #[Operand.tmp 124, Operand.tmp 128], argTypes := #[33, 33] }, type := 4, pos := "law.go:186", after := #[{ on := 3, ground := Ground.data }, { on := 7, ground := Ground.data }], guard := none }) rfl (fun K hK => ?_) AllReadyH.nil
                  go_simp
                  refine (same_any ai aj li lj ci cj nw ws _ hk.2.2.2.1 hk.2.2.2.2.1).mono ?_
                  rintro e1 w8 ⟨rfl, q8, hq8⟩
                  rw [hd]
                  replace hk : w8.cell? ⟨b1, o1 + p, none⟩ = some (.slice ai li ci) ∧ w8.cell? ⟨b2, o2 + p, none⟩ = some (.slice aj lj cj) ∧ w8.cell? ⟨gs, p, none⟩ = some (.slice av lv cv) ∧ Bts w8 ai li ci nw ∧ Bts w8 aj lj cj ws ∧ Hid (∃ q2, w8 = w11.drewN q2) := by
                    rw [hq8]
                    refine ⟨hk.1, hk.2.1, hk.2.2.1, hk.2.2.2.1.drewN q8, hk.2.2.2.2.1.drewN q8, ?_⟩
                    obtain ⟨q9, hq9⟩ := hk.2.2.2.2.2.out
                    exact ⟨q9 + q8, by rw [hq9]; simp⟩
                  clear hq8
                  refine hK.out _ _ hk (fun _ => ?_)
                  clear hK K
                  try simp only [Act.put, List.setIfInBounds_toArray, List.set_cons_zero, List.set_cons_succ]
                  refine wpAnyH_take (i := 9) (oi := { dst := some 130, op := Op.move (Operand.tmp 129), type := 4, pos := "law.go:186", after := #[{ on := 8, ground := Ground.data }, { on := 8, ground := Ground.chain }], guard := none }) (v := ?vdte29c9) rfl (by kernel_rfl) (by kernel_rfl) (by kernel_rfl) (fun _ _ _ h => h) (Or.inl ⟨by rfl, ?ydte29c9⟩) hk ?rdte29c9
                  case ydte29c9 => (intro w hSw; (try dsimp only at hSw); go_simp; first | done | with_reducible rfl)
                  simp only [Act.put, List.setIfInBounds_toArray, List.set_cons_zero, List.set_cons_succ]
                  refine wpAnyH_take (i := 10) (oi := { dst := some 131, op := Op.move (Operand.tmp 14), type := 4, pos := "law.go:186", after := #[{ on := 9, ground := Ground.guard }], guard := some (9, true) }) (v := ?vdte29c10) rfl (by kernel_rfl) (by kernel_rfl) (by kernel_rfl) (fun _ _ _ h => h) (Or.inl ⟨by rfl, ?ydte29c10⟩) hk ?rdte29c10
                  case ydte29c10 => (intro w hSw; (try dsimp only at hSw); go_simp; first | done | with_reducible rfl)
                  simp only [Act.put, List.setIfInBounds_toArray, List.set_cons_zero, List.set_cons_succ]
                  refine wpAnyH_take (i := 11) (oi := { dst := some 132, op := Op.move (Operand.tmp 131), type := 4, pos := "law.go:186", after := #[{ on := 10, ground := Ground.data }, { on := 9, ground := Ground.chain }, { on := 9, ground := Ground.guard }], guard := some (9, true) }) (v := ?vdte29c11) rfl (by kernel_rfl) (by kernel_rfl) (by kernel_rfl) (fun _ _ _ h => h) (Or.inl ⟨by rfl, ?ydte29c11⟩) hk ?rdte29c11
                  case ydte29c11 => (intro w hSw; (try dsimp only at hSw); go_simp; first | done | with_reducible rfl)
                  simp only [Act.put, List.setIfInBounds_toArray, List.set_cons_zero, List.set_cons_succ]
                  refine wpAnyH_take (i := 12) (oi := { dst := some 133, op := Op.move (Operand.tmp 17), type := 3, pos := "law.go:186", after := #[{ on := 11, ground := Ground.guard }], guard := some (11, true) }) (v := ?vdte29c12) rfl (by kernel_rfl) (by kernel_rfl) (by kernel_rfl) (fun _ _ _ h => h) (Or.inl ⟨by rfl, ?ydte29c12⟩) hk ?rdte29c12
                  case ydte29c12 => (intro w hSw; (try dsimp only at hSw); go_simp; first | done | with_reducible rfl)
                  simp only [Act.put, List.setIfInBounds_toArray, List.set_cons_zero, List.set_cons_succ]
                  refine wpAnyH_take (i := 13) (oi := { dst := some 134, op := Op.indexAddr 47 (Operand.tmp 9) (Operand.tmp 133), type := 0, pos := "law.go:186", after := #[{ on := 12, ground := Ground.data }, { on := 11, ground := Ground.guard }], guard := some (11, true) }) (v := ?vdte29c13) rfl (by kernel_rfl) (by kernel_rfl) (by kernel_rfl) (fun _ _ _ h => h) (Or.inl ⟨by rfl, ?ydte29c13⟩) hk ?rdte29c13
                  case ydte29c13 => (intro w hSw; (try dsimp only at hSw); go_simp; first | done | with_reducible rfl)
                  simp only [Act.put, List.setIfInBounds_toArray, List.set_cons_zero, List.set_cons_succ]
                  refine wpAnyH_take (i := 14) (oi := { dst := some 135, op := Op.load 41 (Operand.tmp 134), type := 41, pos := "law.go:186", after := #[{ on := 13, ground := Ground.data }, { on := 11, ground := Ground.guard }], guard := some (11, true) }) (v := ?vdte29c14) rfl (by kernel_rfl) (by kernel_rfl) (by kernel_rfl) (fun _ _ _ h => h) (Or.inl ⟨by rfl, ?ydte29c14⟩) hk ?rdte29c14
                  case ydte29c14 => (intro w hSw; have hcw := hSw.2.2.1; clear hSw; go_simp; first | done | with_reducible rfl)
                  simp only [Act.put, List.setIfInBounds_toArray, List.set_cons_zero, List.set_cons_succ]
                  refine wpAnyH_take (i := 15) (oi := { dst := some 136, op := Op.call { callee := Callee.builtin Builtin.len, args := #[Operand.tmp 135], argTypes := #[41] }, type := 3, pos := "law.go:186", after := #[{ on := 14, ground := Ground.data }, { on := 11, ground := Ground.guard }], guard := some (11, true) }) (v := ?vdte29c15) rfl (by kernel_rfl) (by kernel_rfl) (by kernel_rfl) (fun _ _ _ h => h) (Or.inl ⟨by rfl, ?ydte29c15⟩) hk ?rdte29c15
                  case ydte29c15 => (intro w hSw; (try dsimp only at hSw); go_simp; first | done | with_reducible rfl)
                  simp only [Act.put, List.setIfInBounds_toArray, List.set_cons_zero, List.set_cons_succ]
                  refine wpAnyH_take (i := 16) (oi := { dst := some 137, op := Op.binOp BinOp.gtr 3 (Operand.tmp 136) (Operand.const (Value.int IntKind.i64 0)) 3, type := 4, pos := "law.go:186", after := #[{ on := 15, ground := Ground.data }, { on := 11, ground := Ground.guard }], guard := some (11, true) }) (v := ?vdte29c16) rfl (by kernel_rfl) (by kernel_rfl) (by kernel_rfl) (fun _ _ _ h => h) (Or.inl ⟨by rfl, ?ydte29c16⟩) hk ?rdte29c16
                  case ydte29c16 => (intro w hSw; (try dsimp only at hSw); go_simp; first | done | with_reducible rfl)
                  simp only [Act.put, List.setIfInBounds_toArray, List.set_cons_zero, List.set_cons_succ]
                  refine wpAnyH_take (i := 17) (oi := { dst := some 138, op := Op.pick (Operand.tmp 132) (Operand.tmp 137) (Operand.const (Value.bool false)), type := 4, pos := "law.go:186", after := #[{ on := 11, ground := Ground.data }, { on := 16, ground := Ground.data }, { on := 9, ground := Ground.guard }], guard := some (9, true) }) (v := ?vdte29c17) rfl (by kernel_rfl) (by kernel_rfl) (by kernel_rfl) (fun _ _ _ h => h) (Or.inl ⟨by rfl, ?ydte29c17⟩) hk ?rdte29c17
                  case ydte29c17 => (intro w hSw; (try dsimp only at hSw); go_simp; first | done | with_reducible rfl)
                  simp only [Act.put, List.setIfInBounds_toArray, List.set_cons_zero, List.set_cons_succ]
                  refine wpAnyH_take (i := 18) (oi := { dst := some 139, op := Op.unOp UnOp.not 4 (Operand.tmp 138), type := 4, pos := "law.go:186", after := #[{ on := 17, ground := Ground.data }, { on := 9, ground := Ground.guard }], guard := some (9, true) }) (v := ?vdte29c18) rfl (by kernel_rfl) (by kernel_rfl) (by kernel_rfl) (fun _ _ _ h => h) (Or.inl ⟨by rfl, ?ydte29c18⟩) hk ?rdte29c18
                  case ydte29c18 => (intro w hSw; (try dsimp only at hSw); go_simp; first | done | with_reducible rfl)
                  simp only [Act.put, List.setIfInBounds_toArray, List.set_cons_zero, List.set_cons_succ]
                  refine wpAnyH_take (i := 19) (oi := { dst := some 140, op := Op.pick (Operand.tmp 130) (Operand.tmp 139) (Operand.const (Value.bool false)), type := 4, pos := "law.go:186", after := #[{ on := 9, ground := Ground.data }, { on := 18, ground := Ground.data }], guard := none }) (v := ?vdte29c19) rfl (by kernel_rfl) (by kernel_rfl) (by kernel_rfl) (fun _ _ _ h => h) (Or.inl ⟨by rfl, ?ydte29c19⟩) hk ?rdte29c19
                  case ydte29c19 => (intro w hSw; (try dsimp only at hSw); go_simp; first | done | with_reducible rfl)
                  simp only [Act.put, List.setIfInBounds_toArray, List.set_cons_zero, List.set_cons_succ]
                  refine wpAnyH_take (i := 20) (oi := { dst := some 18, op := Op.assign (Operand.tmp 140), type := 4, pos := "law.go:186", after := #[{ on := 19, ground := Ground.data }, { on := 11, ground := Ground.chain }, { on := 0, ground := Ground.phase }, { on := 1, ground := Ground.phase }, { on := 2, ground := Ground.phase }, { on := 3, ground := Ground.phase }, { on := 4, ground := Ground.phase }, { on := 5, ground := Ground.phase }, { on := 6, ground := Ground.phase }, { on := 7, ground := Ground.phase }, { on := 8, ground := Ground.phase }, { on := 9, ground := Ground.phase }, { on := 10, ground := Ground.phase }, { on := 11, ground := Ground.phase }, { on := 12, ground := Ground.phase }, { on := 13, ground := Ground.phase }, { on := 14, ground := Ground.phase }, { on := 15, ground := Ground.phase }, { on := 16, ground := Ground.phase }, { on := 17, ground := Ground.phase }, { on := 18, ground := Ground.phase }, { on := 19, ground := Ground.phase }], guard := none }) (v := ?vdte29c20) rfl (by kernel_rfl) (by kernel_rfl) (by kernel_rfl) (fun _ _ _ h => h) (Or.inl ⟨by rfl, ?ydte29c20⟩) hk ?rdte29c20
                  case ydte29c20 => (intro w hSw; (try dsimp only at hSw); go_simp; first | done | with_reducible rfl)
                  simp only [Act.put, List.setIfInBounds_toArray, List.set_cons_zero, List.set_cons_succ]
                  refine wpAnyH_done (by decide +kernel) ?_ _
                  obtain ⟨q9, hq9⟩ := hk.2.2.2.2.2.out
                  clear hk
                  go_wp2_with fail
                  go_meet
                  case rel => exact ⟨q9, by rw [HV.out], hq9⟩
              · have hd : decide (nw = ws) = false := by simpa using hE
                have HV : Bx (okB nw ws S fb 0 = false) := ⟨by unfold okB; rw [hd]; rfl⟩
                have hk := hk0
                clear hE hk0
                refine wp_region_held_drew (S := fun W => W.cell? ⟨b1, o1 + p, none⟩ = some (.slice ai li ci) ∧ W.cell? ⟨b2, o2 + p, none⟩ = some (.slice aj lj cj) ∧ W.cell? ⟨gs, p, none⟩ = some (.slice av lv cv) ∧ Bts W ai li ci nw ∧ Bts W aj lj cj ws ∧ Hid (∃ q2, W = w11.drewN q2)) (by kernel_rfl) hk (fun _ => ?_)
                generalize wr.drew = wk at hk ⊢
                refine wpAnyH_take (i := 0) (oi := { dst := some 121, op := Op.move (Operand.tmp 16), type := 41, pos := "law.go:186", after := #[], guard := none }) (v := ?vdte29a1) rfl (by kernel_rfl) (by kernel_rfl) (by kernel_rfl) (fun _ _ _ h => h) (Or.inl ⟨by rfl, ?ydte29a1⟩) hk ?rdte29a1
                case ydte29a1 => (intro w hSw; (try dsimp only at hSw); go_simp; first | done | with_reducible rfl)
                simp only [Act.put, List.setIfInBounds_toArray, List.set_cons_zero, List.set_cons_succ]
                refine wpAnyH_take (i := 1) (oi := { dst := some 122, op := Op.move (Operand.tmp 17), type := 3, pos := "law.go:186", after := #[], guard := none }) (v := ?vdte29a2) rfl (by kernel_rfl) (by kernel_rfl) (by kernel_rfl) (fun _ _ _ h => h) (Or.inl ⟨by rfl, ?ydte29a2⟩) hk ?rdte29a2
                case ydte29a2 => (intro w hSw; (try dsimp only at hSw); go_simp; first | done | with_reducible rfl)
                simp only [Act.put, List.setIfInBounds_toArray, List.set_cons_zero, List.set_cons_succ]
                refine wpAnyH_take (i := 2) (oi := { dst := some 123, op := Op.indexAddr 41 (Operand.tmp 121) (Operand.tmp 122), type := 0, pos := "law.go:186", after := #[{ on := 0, ground := Ground.data }, { on := 1, ground := Ground.data }], guard := none }) (v := ?vdte29a3) rfl (by kernel_rfl) (by kernel_rfl) (by kernel_rfl) (fun _ _ _ h => h) (Or.inl ⟨by rfl, ?ydte29a3⟩) hk ?rdte29a3
                case ydte29a3 => (intro w hSw; (try dsimp only at hSw); go_simp; first | done | with_reducible rfl)
                simp only [Act.put, List.setIfInBounds_toArray, List.set_cons_zero, List.set_cons_succ]
                refine wpAnyH_take (i := 3) (oi := { dst := some 124, op := Op.load 33 (Operand.tmp 123), type := 33, pos := "law.go:186", after := #[{ on := 2, ground := Ground.data }], guard := none }) (v := ?vdte29a4) rfl (by kernel_rfl) (by kernel_rfl) (by kernel_rfl) (fun _ _ _ h => h) (Or.inl ⟨by rfl, ?ydte29a4⟩) hk ?rdte29a4
                case ydte29a4 => (intro w hSw; have hcw := hSw.1; clear hSw; go_simp; first | done | with_reducible rfl)
                simp only [Act.put, List.setIfInBounds_toArray, List.set_cons_zero, List.set_cons_succ]
                refine wpAnyH_take (i := 4) (oi := { dst := some 125, op := Op.move (Operand.tmp 8), type := 41, pos := "law.go:186", after := #[], guard := none }) (v := ?vdte29a5) rfl (by kernel_rfl) (by kernel_rfl) (by kernel_rfl) (fun _ _ _ h => h) (Or.inl ⟨by rfl, ?ydte29a5⟩) hk ?rdte29a5
                case ydte29a5 => (intro w hSw; (try dsimp only at hSw); go_simp; first | done | with_reducible rfl)
                simp only [Act.put, List.setIfInBounds_toArray, List.set_cons_zero, List.set_cons_succ]
                refine wpAnyH_take (i := 5) (oi := { dst := some 126, op := Op.move (Operand.tmp 17), type := 3, pos := "law.go:186", after := #[], guard := none }) (v := ?vdte29a6) rfl (by kernel_rfl) (by kernel_rfl) (by kernel_rfl) (fun _ _ _ h => h) (Or.inl ⟨by rfl, ?ydte29a6⟩) hk ?rdte29a6
                case ydte29a6 => (intro w hSw; (try dsimp only at hSw); go_simp; first | done | with_reducible rfl)
                simp only [Act.put, List.setIfInBounds_toArray, List.set_cons_zero, List.set_cons_succ]
                refine wpAnyH_take (i := 6) (oi := { dst := some 127, op := Op.indexAddr 41 (Operand.tmp 125) (Operand.tmp 126), type := 0, pos := "law.go:186", after := #[{ on := 4, ground := Ground.data }, { on := 5, ground := Ground.data }], guard := none }) (v := ?vdte29a7) rfl (by kernel_rfl) (by kernel_rfl) (by kernel_rfl) (fun _ _ _ h => h) (Or.inl ⟨by rfl, ?ydte29a7⟩) hk ?rdte29a7
                case ydte29a7 => (intro w hSw; (try dsimp only at hSw); go_simp; first | done | with_reducible rfl)
                simp only [Act.put, List.setIfInBounds_toArray, List.set_cons_zero, List.set_cons_succ]
                refine wpAnyH_take (i := 7) (oi := { dst := some 128, op := Op.load 33 (Operand.tmp 127), type := 33, pos := "law.go:186", after := #[{ on := 6, ground := Ground.data }], guard := none }) (v := ?vdte29a8) rfl (by kernel_rfl) (by kernel_rfl) (by kernel_rfl) (fun _ _ _ h => h) (Or.inl ⟨by rfl, ?ydte29a8⟩) hk ?rdte29a8
                case ydte29a8 => (intro w hSw; have hcw := hSw.2.1; clear hSw; go_simp; first | done | with_reducible rfl)
                simp only [Act.put, List.setIfInBounds_toArray, List.set_cons_zero, List.set_cons_succ]
                refine wpAnyH_ready (rs := [8]) (by decide +kernel) (by simp) ?_
                refine AllReadyH.cons (o := { dst := some 129, op := Op.call { callee := Callee.value (Operand.func 24), args := #[Operand.tmp 124, Operand.tmp 128], argTypes := #[33, 33] }, type := 4, pos := "law.go:186", after := #[{ on := 3, ground := Ground.data }, { on := 7, ground := Ground.data }], guard := none }) rfl (fun K hK => ?_) AllReadyH.nil
                go_simp
                refine (same_any ai aj li lj ci cj nw ws _ hk.2.2.2.1 hk.2.2.2.2.1).mono ?_
                rintro e1 w8 ⟨rfl, q8, hq8⟩
                rw [hd]
                replace hk : w8.cell? ⟨b1, o1 + p, none⟩ = some (.slice ai li ci) ∧ w8.cell? ⟨b2, o2 + p, none⟩ = some (.slice aj lj cj) ∧ w8.cell? ⟨gs, p, none⟩ = some (.slice av lv cv) ∧ Bts w8 ai li ci nw ∧ Bts w8 aj lj cj ws ∧ Hid (∃ q2, w8 = w11.drewN q2) := by
                  rw [hq8]
                  refine ⟨hk.1, hk.2.1, hk.2.2.1, hk.2.2.2.1.drewN q8, hk.2.2.2.2.1.drewN q8, ?_⟩
                  obtain ⟨q9, hq9⟩ := hk.2.2.2.2.2.out
                  exact ⟨q9 + q8, by rw [hq9]; simp⟩
                clear hq8
                refine hK.out _ _ hk (fun _ => ?_)
                clear hK K
                try simp only [Act.put, List.setIfInBounds_toArray, List.set_cons_zero, List.set_cons_succ]
                refine wpAnyH_take (i := 9) (oi := { dst := some 130, op := Op.move (Operand.tmp 129), type := 4, pos := "law.go:186", after := #[{ on := 8, ground := Ground.data }, { on := 8, ground := Ground.chain }], guard := none }) (v := ?vdte29a9) rfl (by kernel_rfl) (by kernel_rfl) (by kernel_rfl) (fun _ _ _ h => h) (Or.inl ⟨by rfl, ?ydte29a9⟩) hk ?rdte29a9
                case ydte29a9 => (intro w hSw; (try dsimp only at hSw); go_simp; first | done | with_reducible rfl)
                simp only [Act.put, List.setIfInBounds_toArray, List.set_cons_zero, List.set_cons_succ]
                refine wpAnyH_take (i := 10) (oi := { dst := some 131, op := Op.move (Operand.tmp 14), type := 4, pos := "law.go:186", after := #[{ on := 9, ground := Ground.guard }], guard := some (9, true) }) (v := undef) rfl (by kernel_rfl) (by kernel_rfl) (by kernel_rfl) (fun _ _ _ h => h) (Or.inr ⟨by rfl, rfl⟩) hk ?_
                simp only [Act.put, List.setIfInBounds_toArray, List.set_cons_zero, List.set_cons_succ]
                refine wpAnyH_take (i := 11) (oi := { dst := some 132, op := Op.move (Operand.tmp 131), type := 4, pos := "law.go:186", after := #[{ on := 10, ground := Ground.data }, { on := 9, ground := Ground.chain }, { on := 9, ground := Ground.guard }], guard := some (9, true) }) (v := undef) rfl (by kernel_rfl) (by kernel_rfl) (by kernel_rfl) (fun _ _ _ h => h) (Or.inr ⟨by rfl, rfl⟩) hk ?_
                simp only [Act.put, List.setIfInBounds_toArray, List.set_cons_zero, List.set_cons_succ]
                refine wpAnyH_take (i := 12) (oi := { dst := some 133, op := Op.move (Operand.tmp 17), type := 3, pos := "law.go:186", after := #[{ on := 11, ground := Ground.guard }], guard := some (11, true) }) (v := undef) rfl (by kernel_rfl) (by kernel_rfl) (by kernel_rfl) (fun _ _ _ h => h) (Or.inr ⟨by rfl, rfl⟩) hk ?_
                simp only [Act.put, List.setIfInBounds_toArray, List.set_cons_zero, List.set_cons_succ]
                refine wpAnyH_take (i := 13) (oi := { dst := some 134, op := Op.indexAddr 47 (Operand.tmp 9) (Operand.tmp 133), type := 0, pos := "law.go:186", after := #[{ on := 12, ground := Ground.data }, { on := 11, ground := Ground.guard }], guard := some (11, true) }) (v := undef) rfl (by kernel_rfl) (by kernel_rfl) (by kernel_rfl) (fun _ _ _ h => h) (Or.inr ⟨by rfl, rfl⟩) hk ?_
                simp only [Act.put, List.setIfInBounds_toArray, List.set_cons_zero, List.set_cons_succ]
                refine wpAnyH_take (i := 14) (oi := { dst := some 135, op := Op.load 41 (Operand.tmp 134), type := 41, pos := "law.go:186", after := #[{ on := 13, ground := Ground.data }, { on := 11, ground := Ground.guard }], guard := some (11, true) }) (v := undef) rfl (by kernel_rfl) (by kernel_rfl) (by kernel_rfl) (fun _ _ _ h => h) (Or.inr ⟨by rfl, rfl⟩) hk ?_
                simp only [Act.put, List.setIfInBounds_toArray, List.set_cons_zero, List.set_cons_succ]
                refine wpAnyH_take (i := 15) (oi := { dst := some 136, op := Op.call { callee := Callee.builtin Builtin.len, args := #[Operand.tmp 135], argTypes := #[41] }, type := 3, pos := "law.go:186", after := #[{ on := 14, ground := Ground.data }, { on := 11, ground := Ground.guard }], guard := some (11, true) }) (v := undef) rfl (by kernel_rfl) (by kernel_rfl) (by kernel_rfl) (fun _ _ _ h => h) (Or.inr ⟨by rfl, rfl⟩) hk ?_
                simp only [Act.put, List.setIfInBounds_toArray, List.set_cons_zero, List.set_cons_succ]
                refine wpAnyH_take (i := 16) (oi := { dst := some 137, op := Op.binOp BinOp.gtr 3 (Operand.tmp 136) (Operand.const (Value.int IntKind.i64 0)) 3, type := 4, pos := "law.go:186", after := #[{ on := 15, ground := Ground.data }, { on := 11, ground := Ground.guard }], guard := some (11, true) }) (v := undef) rfl (by kernel_rfl) (by kernel_rfl) (by kernel_rfl) (fun _ _ _ h => h) (Or.inr ⟨by rfl, rfl⟩) hk ?_
                simp only [Act.put, List.setIfInBounds_toArray, List.set_cons_zero, List.set_cons_succ]
                refine wpAnyH_take (i := 17) (oi := { dst := some 138, op := Op.pick (Operand.tmp 132) (Operand.tmp 137) (Operand.const (Value.bool false)), type := 4, pos := "law.go:186", after := #[{ on := 11, ground := Ground.data }, { on := 16, ground := Ground.data }, { on := 9, ground := Ground.guard }], guard := some (9, true) }) (v := undef) rfl (by kernel_rfl) (by kernel_rfl) (by kernel_rfl) (fun _ _ _ h => h) (Or.inr ⟨by rfl, rfl⟩) hk ?_
                simp only [Act.put, List.setIfInBounds_toArray, List.set_cons_zero, List.set_cons_succ]
                refine wpAnyH_take (i := 18) (oi := { dst := some 139, op := Op.unOp UnOp.not 4 (Operand.tmp 138), type := 4, pos := "law.go:186", after := #[{ on := 17, ground := Ground.data }, { on := 9, ground := Ground.guard }], guard := some (9, true) }) (v := undef) rfl (by kernel_rfl) (by kernel_rfl) (by kernel_rfl) (fun _ _ _ h => h) (Or.inr ⟨by rfl, rfl⟩) hk ?_
                simp only [Act.put, List.setIfInBounds_toArray, List.set_cons_zero, List.set_cons_succ]
                refine wpAnyH_take (i := 19) (oi := { dst := some 140, op := Op.pick (Operand.tmp 130) (Operand.tmp 139) (Operand.const (Value.bool false)), type := 4, pos := "law.go:186", after := #[{ on := 9, ground := Ground.data }, { on := 18, ground := Ground.data }], guard := none }) (v := ?vdte29a10) rfl (by kernel_rfl) (by kernel_rfl) (by kernel_rfl) (fun _ _ _ h => h) (Or.inl ⟨by rfl, ?ydte29a10⟩) hk ?rdte29a10
                case ydte29a10 => (intro w hSw; (try dsimp only at hSw); go_simp; first | done | with_reducible rfl)
                simp only [Act.put, List.setIfInBounds_toArray, List.set_cons_zero, List.set_cons_succ]
                refine wpAnyH_take (i := 20) (oi := { dst := some 18, op := Op.assign (Operand.tmp 140), type := 4, pos := "law.go:186", after := #[{ on := 19, ground := Ground.data }, { on := 11, ground := Ground.chain }, { on := 0, ground := Ground.phase }, { on := 1, ground := Ground.phase }, { on := 2, ground := Ground.phase }, { on := 3, ground := Ground.phase }, { on := 4, ground := Ground.phase }, { on := 5, ground := Ground.phase }, { on := 6, ground := Ground.phase }, { on := 7, ground := Ground.phase }, { on := 8, ground := Ground.phase }, { on := 9, ground := Ground.phase }, { on := 10, ground := Ground.phase }, { on := 11, ground := Ground.phase }, { on := 12, ground := Ground.phase }, { on := 13, ground := Ground.phase }, { on := 14, ground := Ground.phase }, { on := 15, ground := Ground.phase }, { on := 16, ground := Ground.phase }, { on := 17, ground := Ground.phase }, { on := 18, ground := Ground.phase }, { on := 19, ground := Ground.phase }], guard := none }) (v := ?vdte29a11) rfl (by kernel_rfl) (by kernel_rfl) (by kernel_rfl) (fun _ _ _ h => h) (Or.inl ⟨by rfl, ?ydte29a11⟩) hk ?rdte29a11
                case ydte29a11 => (intro w hSw; (try dsimp only at hSw); go_simp; first | done | with_reducible rfl)
                simp only [Act.put, List.setIfInBounds_toArray, List.set_cons_zero, List.set_cons_succ]
                refine wpAnyH_done (by decide +kernel) ?_ _
                obtain ⟨q9, hq9⟩ := hk.2.2.2.2.2.out
                clear hk
                go_wp2_with fail
                go_meet
                case rel => exact ⟨q9, by rw [HV.out], hq9⟩
            case rest =>
              clear hk0
              obtain ⟨q2, rfl, hwc⟩ := hcut
              subst hwc
              have hwrap : IntKind.i64.wrap ((lv : Int) - 1) = (lv : Int) - 1 := IntWalk.i64_in _ (by omega)
              clear HQ
              obtain ⟨wo, hwo⟩ : ∃ wo, wo = wr := ⟨_, rfl⟩
              subst hwo
              go_wp2
              go_loopw [18, 19] (fun ov i wr => ∃ t q : Nat, t ≤ lv ∧ i = .int .i64 t ∧ ov = .bool (okB nw ws S fb t) ∧ wr = w11.drewN q) (fun _ i _ => lv - (intOf i).toNat)
              case atStart => exact ⟨0, q2, Nat.zero_le _, rfl, rfl, rfl⟩
              case round =>
                obtain ⟨t, q3, ht, rfl, hov, hwr3⟩ := hrel
                replace hov : u18 = .bool (okB nw ws S fb t) := hov
                subst hov
                have r3x : wr.cell? ⟨gs, p, none⟩ = some (.slice av lv cv) := by rw [hwr3]; exact HR3.out
                by_cases htl : t < lv
                · have htI : (t : Int) < (lv : Int) := by omega
                  obtain ⟨bv1, ov1, ev, _, hsp⟩ := HT3.out.spot (by omega)
                  subst ev
                  obtain ⟨ak, lk2, ck, r4, t4⟩ := hsp t htl
                  have HNX : Bx (okB nw ws S fb (t + 1) = (okB nw ws S fb t || (decide (nw = S.getD t []) && (!fb || decide (t + 1 = S.length))))) := ⟨rfl⟩
                  rw [← HLV.out] at HNX
                  generalize S.getD t [] = st at t4 HNX
                  have hk0 : wr.drew.cell? ⟨b1, o1 + p, none⟩ = some (.slice ai li ci) ∧ wr.drew.cell? ⟨gs, p, none⟩ = some (.slice (some ⟨bv1, ov1, none⟩) lv cv) ∧ wr.drew.cell? ⟨bv1, ov1 + t, none⟩ = some (.slice ak lk2 ck) ∧ Bts wr.drew ai li ci nw ∧ Bts wr.drew ak lk2 ck st ∧ Hid (∃ q2, wr.drew = w11.drewN q2) := by
                    have e : wr.drew = w11.drewN (q3 + 1) := by rw [hwr3]; rfl
                    rw [e]
                    exact ⟨HR1.out, HR3.out, r4, HT1.out.drewN _, t4.drewN _, ⟨q3 + 1, rfl⟩⟩
                  clear hsp r4 t4 hwr3
                  go_upto_region 33 with fail
                  clear r3x
                  have hk := hk0
                  clear hk0
                  cases hob : okB nw ws S fb t with
                  | true =>
                    rw [hob] at HNX
                    clear hob
                    refine wp_region_held_drew (S := fun W => W.cell? ⟨b1, o1 + p, none⟩ = some (.slice ai li ci) ∧ W.cell? ⟨gs, p, none⟩ = some (.slice (some ⟨bv1, ov1, none⟩) lv cv) ∧ W.cell? ⟨bv1, ov1 + t, none⟩ = some (.slice ak lk2 ck) ∧ Bts W ai li ci nw ∧ Bts W ak lk2 ck st ∧ Hid (∃ q2, W = w11.drewN q2)) (by kernel_rfl) hk (fun _ => ?_)
                    generalize wr.drew = wk at hk ⊢
                    refine wpAnyH_take (i := 0) (oi := { dst := some 149, op := Op.move (Operand.tmp 18), type := 4, pos := "law.go:188", after := #[], guard := none }) (v := ?vdte33a1) rfl (by kernel_rfl) (by kernel_rfl) (by kernel_rfl) (fun _ _ _ h => h) (Or.inl ⟨by rfl, ?ydte33a1⟩) hk ?rdte33a1
                    case ydte33a1 => (intro w hSw; (try dsimp only at hSw); go_simp; first | done | with_reducible rfl)
                    simp only [Act.put, List.setIfInBounds_toArray, List.set_cons_zero, List.set_cons_succ]
                    refine wpAnyH_take (i := 1) (oi := { dst := some 150, op := Op.move (Operand.tmp 149), type := 4, pos := "law.go:188", after := #[{ on := 0, ground := Ground.data }], guard := none }) (v := ?vdte33a2) rfl (by kernel_rfl) (by kernel_rfl) (by kernel_rfl) (fun _ _ _ h => h) (Or.inl ⟨by rfl, ?ydte33a2⟩) hk ?rdte33a2
                    case ydte33a2 => (intro w hSw; (try dsimp only at hSw); go_simp; first | done | with_reducible rfl)
                    simp only [Act.put, List.setIfInBounds_toArray, List.set_cons_zero, List.set_cons_succ]
                    refine wpAnyH_take (i := 2) (oi := { dst := some 151, op := Op.move (Operand.tmp 16), type := 41, pos := "law.go:188", after := #[{ on := 1, ground := Ground.guard }], guard := some (1, false) }) (v := undef) rfl (by kernel_rfl) (by kernel_rfl) (by kernel_rfl) (fun _ _ _ h => h) (Or.inr ⟨by rfl, rfl⟩) hk ?_
                    simp only [Act.put, List.setIfInBounds_toArray, List.set_cons_zero, List.set_cons_succ]
                    refine wpAnyH_take (i := 3) (oi := { dst := some 152, op := Op.move (Operand.tmp 17), type := 3, pos := "law.go:188", after := #[{ on := 1, ground := Ground.guard }], guard := some (1, false) }) (v := undef) rfl (by kernel_rfl) (by kernel_rfl) (by kernel_rfl) (fun _ _ _ h => h) (Or.inr ⟨by rfl, rfl⟩) hk ?_
                    simp only [Act.put, List.setIfInBounds_toArray, List.set_cons_zero, List.set_cons_succ]
                    refine wpAnyH_take (i := 4) (oi := { dst := some 153, op := Op.indexAddr 41 (Operand.tmp 151) (Operand.tmp 152), type := 0, pos := "law.go:188", after := #[{ on := 2, ground := Ground.data }, { on := 3, ground := Ground.data }, { on := 1, ground := Ground.guard }], guard := some (1, false) }) (v := undef) rfl (by kernel_rfl) (by kernel_rfl) (by kernel_rfl) (fun _ _ _ h => h) (Or.inr ⟨by rfl, rfl⟩) hk ?_
                    simp only [Act.put, List.setIfInBounds_toArray, List.set_cons_zero, List.set_cons_succ]
                    refine wpAnyH_take (i := 5) (oi := { dst := some 154, op := Op.load 33 (Operand.tmp 153), type := 33, pos := "law.go:188", after := #[{ on := 4, ground := Ground.data }, { on := 1, ground := Ground.guard }], guard := some (1, false) }) (v := undef) rfl (by kernel_rfl) (by kernel_rfl) (by kernel_rfl) (fun _ _ _ h => h) (Or.inr ⟨by rfl, rfl⟩) hk ?_
                    simp only [Act.put, List.setIfInBounds_toArray, List.set_cons_zero, List.set_cons_succ]
                    refine wpAnyH_take (i := 6) (oi := { dst := some 155, op := Op.move (Operand.tmp 17), type := 3, pos := "law.go:188", after := #[{ on := 1, ground := Ground.guard }], guard := some (1, false) }) (v := undef) rfl (by kernel_rfl) (by kernel_rfl) (by kernel_rfl) (fun _ _ _ h => h) (Or.inr ⟨by rfl, rfl⟩) hk ?_
                    simp only [Act.put, List.setIfInBounds_toArray, List.set_cons_zero, List.set_cons_succ]
                    refine wpAnyH_take (i := 7) (oi := { dst := some 156, op := Op.indexAddr 47 (Operand.tmp 9) (Operand.tmp 155), type := 0, pos := "law.go:188", after := #[{ on := 6, ground := Ground.data }, { on := 1, ground := Ground.guard }], guard := some (1, false) }) (v := undef) rfl (by kernel_rfl) (by kernel_rfl) (by kernel_rfl) (fun _ _ _ h => h) (Or.inr ⟨by rfl, rfl⟩) hk ?_
                    simp only [Act.put, List.setIfInBounds_toArray, List.set_cons_zero, List.set_cons_succ]
                    refine wpAnyH_take (i := 8) (oi := { dst := some 157, op := Op.load 41 (Operand.tmp 156), type := 41, pos := "law.go:188", after := #[{ on := 7, ground := Ground.data }, { on := 1, ground := Ground.guard }], guard := some (1, false) }) (v := undef) rfl (by kernel_rfl) (by kernel_rfl) (by kernel_rfl) (fun _ _ _ h => h) (Or.inr ⟨by rfl, rfl⟩) hk ?_
                    simp only [Act.put, List.setIfInBounds_toArray, List.set_cons_zero, List.set_cons_succ]
                    refine wpAnyH_take (i := 9) (oi := { dst := some 158, op := Op.move (Operand.tmp 19), type := 3, pos := "law.go:188", after := #[{ on := 1, ground := Ground.guard }], guard := some (1, false) }) (v := undef) rfl (by kernel_rfl) (by kernel_rfl) (by kernel_rfl) (fun _ _ _ h => h) (Or.inr ⟨by rfl, rfl⟩) hk ?_
                    simp only [Act.put, List.setIfInBounds_toArray, List.set_cons_zero, List.set_cons_succ]
                    refine wpAnyH_take (i := 10) (oi := { dst := some 159, op := Op.indexAddr 41 (Operand.tmp 157) (Operand.tmp 158), type := 0, pos := "law.go:188", after := #[{ on := 8, ground := Ground.data }, { on := 9, ground := Ground.data }, { on := 1, ground := Ground.guard }], guard := some (1, false) }) (v := undef) rfl (by kernel_rfl) (by kernel_rfl) (by kernel_rfl) (fun _ _ _ h => h) (Or.inr ⟨by rfl, rfl⟩) hk ?_
                    simp only [Act.put, List.setIfInBounds_toArray, List.set_cons_zero, List.set_cons_succ]
                    refine wpAnyH_take (i := 11) (oi := { dst := some 160, op := Op.load 33 (Operand.tmp 159), type := 33, pos := "law.go:188", after := #[{ on := 10, ground := Ground.data }, { on := 1, ground := Ground.guard }], guard := some (1, false) }) (v := undef) rfl (by kernel_rfl) (by kernel_rfl) (by kernel_rfl) (fun _ _ _ h => h) (Or.inr ⟨by rfl, rfl⟩) hk ?_
                    simp only [Act.put, List.setIfInBounds_toArray, List.set_cons_zero, List.set_cons_succ]
                    refine wpAnyH_take (i := 12) (oi := { dst := some 161, op := Op.call { callee := Callee.value (Operand.func 24), args := #[Operand.tmp 154, Operand.tmp 160], argTypes := #[33, 33] }, type := 4, pos := "law.go:188", after := #[{ on := 5, ground := Ground.data }, { on := 11, ground := Ground.data }, { on := 1, ground := Ground.chain }, { on := 1, ground := Ground.guard }], guard := some (1, false) }) (v := undef) rfl (by kernel_rfl) (by kernel_rfl) (by kernel_rfl) (fun _ _ _ h => h) (Or.inr ⟨by rfl, rfl⟩) hk ?_
                    simp only [Act.put, List.setIfInBounds_toArray, List.set_cons_zero, List.set_cons_succ]
                    refine wpAnyH_take (i := 13) (oi := { dst := some 162, op := Op.move (Operand.tmp 161), type := 4, pos := "law.go:188", after := #[{ on := 12, ground := Ground.data }, { on := 12, ground := Ground.chain }, { on := 1, ground := Ground.guard }], guard := some (1, false) }) (v := undef) rfl (by kernel_rfl) (by kernel_rfl) (by kernel_rfl) (fun _ _ _ h => h) (Or.inr ⟨by rfl, rfl⟩) hk ?_
                    simp only [Act.put, List.setIfInBounds_toArray, List.set_cons_zero, List.set_cons_succ]
                    refine wpAnyH_take (i := 14) (oi := { dst := some 163, op := Op.move (Operand.tmp 14), type := 4, pos := "law.go:188", after := #[{ on := 13, ground := Ground.guard }], guard := some (13, true) }) (v := undef) rfl (by kernel_rfl) (by kernel_rfl) (by kernel_rfl) (fun _ _ _ h => h) (Or.inr ⟨by rfl, rfl⟩) hk ?_
                    simp only [Act.put, List.setIfInBounds_toArray, List.set_cons_zero, List.set_cons_succ]
                    refine wpAnyH_take (i := 15) (oi := { dst := some 164, op := Op.unOp UnOp.not 4 (Operand.tmp 163), type := 4, pos := "law.go:188", after := #[{ on := 14, ground := Ground.data }, { on := 13, ground := Ground.guard }], guard := some (13, true) }) (v := undef) rfl (by kernel_rfl) (by kernel_rfl) (by kernel_rfl) (fun _ _ _ h => h) (Or.inr ⟨by rfl, rfl⟩) hk ?_
                    simp only [Act.put, List.setIfInBounds_toArray, List.set_cons_zero, List.set_cons_succ]
                    refine wpAnyH_take (i := 16) (oi := { dst := some 165, op := Op.move (Operand.tmp 164), type := 4, pos := "law.go:188", after := #[{ on := 15, ground := Ground.data }, { on := 13, ground := Ground.chain }, { on := 13, ground := Ground.guard }], guard := some (13, true) }) (v := undef) rfl (by kernel_rfl) (by kernel_rfl) (by kernel_rfl) (fun _ _ _ h => h) (Or.inr ⟨by rfl, rfl⟩) hk ?_
                    simp only [Act.put, List.setIfInBounds_toArray, List.set_cons_zero, List.set_cons_succ]
                    refine wpAnyH_take (i := 17) (oi := { dst := some 166, op := Op.move (Operand.tmp 19), type := 3, pos := "law.go:188", after := #[{ on := 16, ground := Ground.guard }], guard := some (16, false) }) (v := undef) rfl (by kernel_rfl) (by kernel_rfl) (by kernel_rfl) (fun _ _ _ h => h) (Or.inr ⟨by rfl, rfl⟩) hk ?_
                    simp only [Act.put, List.setIfInBounds_toArray, List.set_cons_zero, List.set_cons_succ]
                    refine wpAnyH_take (i := 18) (oi := { dst := some 167, op := Op.move (Operand.tmp 17), type := 3, pos := "law.go:188", after := #[{ on := 16, ground := Ground.guard }], guard := some (16, false) }) (v := undef) rfl (by kernel_rfl) (by kernel_rfl) (by kernel_rfl) (fun _ _ _ h => h) (Or.inr ⟨by rfl, rfl⟩) hk ?_
                    simp only [Act.put, List.setIfInBounds_toArray, List.set_cons_zero, List.set_cons_succ]
                    refine wpAnyH_take (i := 19) (oi := { dst := some 168, op := Op.indexAddr 47 (Operand.tmp 9) (Operand.tmp 167), type := 0, pos := "law.go:188", after := #[{ on := 18, ground := Ground.data }, { on := 16, ground := Ground.guard }], guard := some (16, false) }) (v := undef) rfl (by kernel_rfl) (by kernel_rfl) (by kernel_rfl) (fun _ _ _ h => h) (Or.inr ⟨by rfl, rfl⟩) hk ?_
                    simp only [Act.put, List.setIfInBounds_toArray, List.set_cons_zero, List.set_cons_succ]
                    refine wpAnyH_take (i := 20) (oi := { dst := some 169, op := Op.load 41 (Operand.tmp 168), type := 41, pos := "law.go:188", after := #[{ on := 19, ground := Ground.data }, { on := 16, ground := Ground.guard }], guard := some (16, false) }) (v := undef) rfl (by kernel_rfl) (by kernel_rfl) (by kernel_rfl) (fun _ _ _ h => h) (Or.inr ⟨by rfl, rfl⟩) hk ?_
                    simp only [Act.put, List.setIfInBounds_toArray, List.set_cons_zero, List.set_cons_succ]
                    refine wpAnyH_take (i := 21) (oi := { dst := some 170, op := Op.call { callee := Callee.builtin Builtin.len, args := #[Operand.tmp 169], argTypes := #[41] }, type := 3, pos := "law.go:188", after := #[{ on := 20, ground := Ground.data }, { on := 16, ground := Ground.guard }], guard := some (16, false) }) (v := undef) rfl (by kernel_rfl) (by kernel_rfl) (by kernel_rfl) (fun _ _ _ h => h) (Or.inr ⟨by rfl, rfl⟩) hk ?_
                    simp only [Act.put, List.setIfInBounds_toArray, List.set_cons_zero, List.set_cons_succ]
                    refine wpAnyH_take (i := 22) (oi := { dst := some 171, op := Op.binOp BinOp.sub 3 (Operand.tmp 170) (Operand.const (Value.int IntKind.i64 1)) 3, type := 3, pos := "law.go:188", after := #[{ on := 21, ground := Ground.data }, { on := 16, ground := Ground.guard }], guard := some (16, false) }) (v := undef) rfl (by kernel_rfl) (by kernel_rfl) (by kernel_rfl) (fun _ _ _ h => h) (Or.inr ⟨by rfl, rfl⟩) hk ?_
                    simp only [Act.put, List.setIfInBounds_toArray, List.set_cons_zero, List.set_cons_succ]
                    refine wpAnyH_take (i := 23) (oi := { dst := some 172, op := Op.binOp BinOp.eql 3 (Operand.tmp 166) (Operand.tmp 171) 3, type := 4, pos := "law.go:188", after := #[{ on := 17, ground := Ground.data }, { on := 22, ground := Ground.data }, { on := 16, ground := Ground.guard }], guard := some (16, false) }) (v := undef) rfl (by kernel_rfl) (by kernel_rfl) (by kernel_rfl) (fun _ _ _ h => h) (Or.inr ⟨by rfl, rfl⟩) hk ?_
                    simp only [Act.put, List.setIfInBounds_toArray, List.set_cons_zero, List.set_cons_succ]
                    refine wpAnyH_take (i := 24) (oi := { dst := some 173, op := Op.pick (Operand.tmp 165) (Operand.const (Value.bool true)) (Operand.tmp 172), type := 4, pos := "law.go:188", after := #[{ on := 16, ground := Ground.data }, { on := 23, ground := Ground.data }, { on := 13, ground := Ground.guard }], guard := some (13, true) }) (v := undef) rfl (by kernel_rfl) (by kernel_rfl) (by kernel_rfl) (fun _ _ _ h => h) (Or.inr ⟨by rfl, rfl⟩) hk ?_
                    simp only [Act.put, List.setIfInBounds_toArray, List.set_cons_zero, List.set_cons_succ]
                    refine wpAnyH_take (i := 25) (oi := { dst := some 174, op := Op.pick (Operand.tmp 162) (Operand.tmp 173) (Operand.const (Value.bool false)), type := 4, pos := "law.go:188", after := #[{ on := 13, ground := Ground.data }, { on := 24, ground := Ground.data }, { on := 1, ground := Ground.guard }], guard := some (1, false) }) (v := undef) rfl (by kernel_rfl) (by kernel_rfl) (by kernel_rfl) (fun _ _ _ h => h) (Or.inr ⟨by rfl, rfl⟩) hk ?_
                    simp only [Act.put, List.setIfInBounds_toArray, List.set_cons_zero, List.set_cons_succ]
                    refine wpAnyH_take (i := 26) (oi := { dst := some 175, op := Op.pick (Operand.tmp 150) (Operand.const (Value.bool true)) (Operand.tmp 174), type := 4, pos := "law.go:188", after := #[{ on := 1, ground := Ground.data }, { on := 25, ground := Ground.data }], guard := none }) (v := ?vdte33a3) rfl (by kernel_rfl) (by kernel_rfl) (by kernel_rfl) (fun _ _ _ h => h) (Or.inl ⟨by rfl, ?ydte33a3⟩) hk ?rdte33a3
                    case ydte33a3 => (intro w hSw; (try dsimp only at hSw); go_simp; first | done | with_reducible rfl)
                    simp only [Act.put, List.setIfInBounds_toArray, List.set_cons_zero, List.set_cons_succ]
                    refine wpAnyH_take (i := 27) (oi := { dst := some 18, op := Op.assign (Operand.tmp 175), type := 4, pos := "law.go:188", after := #[{ on := 26, ground := Ground.data }, { on := 16, ground := Ground.chain }, { on := 0, ground := Ground.phase }, { on := 1, ground := Ground.phase }, { on := 2, ground := Ground.phase }, { on := 3, ground := Ground.phase }, { on := 4, ground := Ground.phase }, { on := 5, ground := Ground.phase }, { on := 6, ground := Ground.phase }, { on := 7, ground := Ground.phase }, { on := 8, ground := Ground.phase }, { on := 9, ground := Ground.phase }, { on := 10, ground := Ground.phase }, { on := 11, ground := Ground.phase }, { on := 12, ground := Ground.phase }, { on := 13, ground := Ground.phase }, { on := 14, ground := Ground.phase }, { on := 15, ground := Ground.phase }, { on := 16, ground := Ground.phase }, { on := 17, ground := Ground.phase }, { on := 18, ground := Ground.phase }, { on := 19, ground := Ground.phase }, { on := 20, ground := Ground.phase }, { on := 21, ground := Ground.phase }, { on := 22, ground := Ground.phase }, { on := 23, ground := Ground.phase }, { on := 24, ground := Ground.phase }, { on := 25, ground := Ground.phase }, { on := 26, ground := Ground.phase }], guard := none }) (v := ?vdte33a4) rfl (by kernel_rfl) (by kernel_rfl) (by kernel_rfl) (fun _ _ _ h => h) (Or.inl ⟨by rfl, ?ydte33a4⟩) hk ?rdte33a4
                    case ydte33a4 => (intro w hSw; (try dsimp only at hSw); go_simp; first | done | with_reducible rfl)
                    simp only [Act.put, List.setIfInBounds_toArray, List.set_cons_zero, List.set_cons_succ]
                    refine wpAnyH_done (by decide +kernel) ?_ _
                    obtain ⟨q9, hq9⟩ := hk.2.2.2.2.2.out
                    clear hk
                    go_wp2
                    go_roundw
                    case rel => exact ⟨t + 1, q9, by omega, by go_num, by rw [HNX.out]; rfl, by first | exact hq9 | rfl⟩
                    case measure => simp [intOf]; omega
                  | false =>
                    rw [hob] at HNX
                    clear hob
                    by_cases hE : nw = st
                    · have hd : decide (nw = st) = true := by simpa using hE
                      rw [hd] at HNX
                      clear hE
                      cases fb with
                      | false =>
                        refine wp_region_held_drew (S := fun W => W.cell? ⟨b1, o1 + p, none⟩ = some (.slice ai li ci) ∧ W.cell? ⟨gs, p, none⟩ = some (.slice (some ⟨bv1, ov1, none⟩) lv cv) ∧ W.cell? ⟨bv1, ov1 + t, none⟩ = some (.slice ak lk2 ck) ∧ Bts W ai li ci nw ∧ Bts W ak lk2 ck st ∧ Hid (∃ q2, W = w11.drewN q2)) (by kernel_rfl) hk (fun _ => ?_)
                        generalize wr.drew = wk at hk ⊢
                        refine wpAnyH_take (i := 0) (oi := { dst := some 149, op := Op.move (Operand.tmp 18), type := 4, pos := "law.go:188", after := #[], guard := none }) (v := ?vdte33c1) rfl (by kernel_rfl) (by kernel_rfl) (by kernel_rfl) (fun _ _ _ h => h) (Or.inl ⟨by rfl, ?ydte33c1⟩) hk ?rdte33c1
                        case ydte33c1 => (intro w hSw; (try dsimp only at hSw); go_simp; first | done | with_reducible rfl)
                        simp only [Act.put, List.setIfInBounds_toArray, List.set_cons_zero, List.set_cons_succ]
                        refine wpAnyH_take (i := 1) (oi := { dst := some 150, op := Op.move (Operand.tmp 149), type := 4, pos := "law.go:188", after := #[{ on := 0, ground := Ground.data }], guard := none }) (v := ?vdte33c2) rfl (by kernel_rfl) (by kernel_rfl) (by kernel_rfl) (fun _ _ _ h => h) (Or.inl ⟨by rfl, ?ydte33c2⟩) hk ?rdte33c2
                        case ydte33c2 => (intro w hSw; (try dsimp only at hSw); go_simp; first | done | with_reducible rfl)
                        simp only [Act.put, List.setIfInBounds_toArray, List.set_cons_zero, List.set_cons_succ]
                        refine wpAnyH_take (i := 2) (oi := { dst := some 151, op := Op.move (Operand.tmp 16), type := 41, pos := "law.go:188", after := #[{ on := 1, ground := Ground.guard }], guard := some (1, false) }) (v := ?vdte33c3) rfl (by kernel_rfl) (by kernel_rfl) (by kernel_rfl) (fun _ _ _ h => h) (Or.inl ⟨by rfl, ?ydte33c3⟩) hk ?rdte33c3
                        case ydte33c3 => (intro w hSw; (try dsimp only at hSw); go_simp; first | done | with_reducible rfl)
                        simp only [Act.put, List.setIfInBounds_toArray, List.set_cons_zero, List.set_cons_succ]
                        refine wpAnyH_take (i := 3) (oi := { dst := some 152, op := Op.move (Operand.tmp 17), type := 3, pos := "law.go:188", after := #[{ on := 1, ground := Ground.guard }], guard := some (1, false) }) (v := ?vdte33c4) rfl (by kernel_rfl) (by kernel_rfl) (by kernel_rfl) (fun _ _ _ h => h) (Or.inl ⟨by rfl, ?ydte33c4⟩) hk ?rdte33c4
                        case ydte33c4 => (intro w hSw; (try dsimp only at hSw); go_simp; first | done | with_reducible rfl)
                        simp only [Act.put, List.setIfInBounds_toArray, List.set_cons_zero, List.set_cons_succ]
                        refine wpAnyH_take (i := 4) (oi := { dst := some 153, op := Op.indexAddr 41 (Operand.tmp 151) (Operand.tmp 152), type := 0, pos := "law.go:188", after := #[{ on := 2, ground := Ground.data }, { on := 3, ground := Ground.data }, { on := 1, ground := Ground.guard }], guard := some (1, false) }) (v := ?vdte33c5) rfl (by kernel_rfl) (by kernel_rfl) (by kernel_rfl) (fun _ _ _ h => h) (Or.inl ⟨by rfl, ?ydte33c5⟩) hk ?rdte33c5
                        case ydte33c5 => (intro w hSw; (try dsimp only at hSw); go_simp; first | done | with_reducible rfl)
                        simp only [Act.put, List.setIfInBounds_toArray, List.set_cons_zero, List.set_cons_succ]
                        refine wpAnyH_take (i := 5) (oi := { dst := some 154, op := Op.load 33 (Operand.tmp 153), type := 33, pos := "law.go:188", after := #[{ on := 4, ground := Ground.data }, { on := 1, ground := Ground.guard }], guard := some (1, false) }) (v := ?vdte33c6) rfl (by kernel_rfl) (by kernel_rfl) (by kernel_rfl) (fun _ _ _ h => h) (Or.inl ⟨by rfl, ?ydte33c6⟩) hk ?rdte33c6
                        case ydte33c6 => (intro w hSw; have hcw := hSw.1; clear hSw; go_simp; first | done | with_reducible rfl)
                        simp only [Act.put, List.setIfInBounds_toArray, List.set_cons_zero, List.set_cons_succ]
                        refine wpAnyH_take (i := 6) (oi := { dst := some 155, op := Op.move (Operand.tmp 17), type := 3, pos := "law.go:188", after := #[{ on := 1, ground := Ground.guard }], guard := some (1, false) }) (v := ?vdte33c7) rfl (by kernel_rfl) (by kernel_rfl) (by kernel_rfl) (fun _ _ _ h => h) (Or.inl ⟨by rfl, ?ydte33c7⟩) hk ?rdte33c7
                        case ydte33c7 => (intro w hSw; (try dsimp only at hSw); go_simp; first | done | with_reducible rfl)
                        simp only [Act.put, List.setIfInBounds_toArray, List.set_cons_zero, List.set_cons_succ]
                        refine wpAnyH_take (i := 7) (oi := { dst := some 156, op := Op.indexAddr 47 (Operand.tmp 9) (Operand.tmp 155), type := 0, pos := "law.go:188", after := #[{ on := 6, ground := Ground.data }, { on := 1, ground := Ground.guard }], guard := some (1, false) }) (v := ?vdte33c8) rfl (by kernel_rfl) (by kernel_rfl) (by kernel_rfl) (fun _ _ _ h => h) (Or.inl ⟨by rfl, ?ydte33c8⟩) hk ?rdte33c8
                        case ydte33c8 => (intro w hSw; (try dsimp only at hSw); go_simp; first | done | with_reducible rfl)
                        simp only [Act.put, List.setIfInBounds_toArray, List.set_cons_zero, List.set_cons_succ]
                        refine wpAnyH_take (i := 8) (oi := { dst := some 157, op := Op.load 41 (Operand.tmp 156), type := 41, pos := "law.go:188", after := #[{ on := 7, ground := Ground.data }, { on := 1, ground := Ground.guard }], guard := some (1, false) }) (v := ?vdte33c9) rfl (by kernel_rfl) (by kernel_rfl) (by kernel_rfl) (fun _ _ _ h => h) (Or.inl ⟨by rfl, ?ydte33c9⟩) hk ?rdte33c9
                        case ydte33c9 => (intro w hSw; have hcw := hSw.2.1; clear hSw; go_simp; first | done | with_reducible rfl)
                        simp only [Act.put, List.setIfInBounds_toArray, List.set_cons_zero, List.set_cons_succ]
                        refine wpAnyH_take (i := 9) (oi := { dst := some 158, op := Op.move (Operand.tmp 19), type := 3, pos := "law.go:188", after := #[{ on := 1, ground := Ground.guard }], guard := some (1, false) }) (v := ?vdte33c10) rfl (by kernel_rfl) (by kernel_rfl) (by kernel_rfl) (fun _ _ _ h => h) (Or.inl ⟨by rfl, ?ydte33c10⟩) hk ?rdte33c10
                        case ydte33c10 => (intro w hSw; (try dsimp only at hSw); go_simp; first | done | with_reducible rfl)
                        simp only [Act.put, List.setIfInBounds_toArray, List.set_cons_zero, List.set_cons_succ]
                        refine wpAnyH_take (i := 10) (oi := { dst := some 159, op := Op.indexAddr 41 (Operand.tmp 157) (Operand.tmp 158), type := 0, pos := "law.go:188", after := #[{ on := 8, ground := Ground.data }, { on := 9, ground := Ground.data }, { on := 1, ground := Ground.guard }], guard := some (1, false) }) (v := ?vdte33c11) rfl (by kernel_rfl) (by kernel_rfl) (by kernel_rfl) (fun _ _ _ h => h) (Or.inl ⟨by rfl, ?ydte33c11⟩) hk ?rdte33c11
                        case ydte33c11 => (intro w hSw; (try dsimp only at hSw); go_simp; first | done | with_reducible rfl)
                        simp only [Act.put, List.setIfInBounds_toArray, List.set_cons_zero, List.set_cons_succ]
                        refine wpAnyH_take (i := 11) (oi := { dst := some 160, op := Op.load 33 (Operand.tmp 159), type := 33, pos := "law.go:188", after := #[{ on := 10, ground := Ground.data }, { on := 1, ground := Ground.guard }], guard := some (1, false) }) (v := ?vdte33c12) rfl (by kernel_rfl) (by kernel_rfl) (by kernel_rfl) (fun _ _ _ h => h) (Or.inl ⟨by rfl, ?ydte33c12⟩) hk ?rdte33c12
                        case ydte33c12 => (intro w hSw; have hcw := hSw.2.2.1; clear hSw; go_simp; first | done | with_reducible rfl)
                        simp only [Act.put, List.setIfInBounds_toArray, List.set_cons_zero, List.set_cons_succ]
                        refine wpAnyH_ready (rs := [12]) (by decide +kernel) (by simp) ?_
                        refine AllReadyH.cons (o := { dst := some 161, op := Op.call { callee := Callee.value (Operand.func 24), args := #[Operand.tmp 154, Operand.tmp 160], argTypes := #[33, 33] }, type := 4, pos := "law.go:188", after := #[{ on := 5, ground := Ground.data }, { on := 11, ground := Ground.data }, { on := 1, ground := Ground.chain }, { on := 1, ground := Ground.guard }], guard := some (1, false) }) rfl (fun K hK => ?_) AllReadyH.nil
                        go_simp
                        refine (same_any ai ak li lk2 ci ck nw st _ hk.2.2.2.1 hk.2.2.2.2.1).mono ?_
                        rintro e1 w8 ⟨rfl, q8, hq8⟩
                        rw [hd]
                        replace hk : w8.cell? ⟨b1, o1 + p, none⟩ = some (.slice ai li ci) ∧ w8.cell? ⟨gs, p, none⟩ = some (.slice (some ⟨bv1, ov1, none⟩) lv cv) ∧ w8.cell? ⟨bv1, ov1 + t, none⟩ = some (.slice ak lk2 ck) ∧ Bts w8 ai li ci nw ∧ Bts w8 ak lk2 ck st ∧ Hid (∃ q2, w8 = w11.drewN q2) := by
                          rw [hq8]
                          refine ⟨hk.1, hk.2.1, hk.2.2.1, hk.2.2.2.1.drewN q8, hk.2.2.2.2.1.drewN q8, ?_⟩
                          obtain ⟨q9, hq9⟩ := hk.2.2.2.2.2.out
                          exact ⟨q9 + q8, by rw [hq9]; simp⟩
                        clear hq8
                        refine hK.out _ _ hk (fun _ => ?_)
                        clear hK K
                        try simp only [Act.put, List.setIfInBounds_toArray, List.set_cons_zero, List.set_cons_succ]
                        refine wpAnyH_take (i := 13) (oi := { dst := some 162, op := Op.move (Operand.tmp 161), type := 4, pos := "law.go:188", after := #[{ on := 12, ground := Ground.data }, { on := 12, ground := Ground.chain }, { on := 1, ground := Ground.guard }], guard := some (1, false) }) (v := ?vdte33c13) rfl (by kernel_rfl) (by kernel_rfl) (by kernel_rfl) (fun _ _ _ h => h) (Or.inl ⟨by rfl, ?ydte33c13⟩) hk ?rdte33c13
                        case ydte33c13 => (intro w hSw; (try dsimp only at hSw); go_simp; first | done | with_reducible rfl)
                        simp only [Act.put, List.setIfInBounds_toArray, List.set_cons_zero, List.set_cons_succ]
                        refine wpAnyH_take (i := 14) (oi := { dst := some 163, op := Op.move (Operand.tmp 14), type := 4, pos := "law.go:188", after := #[{ on := 13, ground := Ground.guard }], guard := some (13, true) }) (v := ?vdte33c14) rfl (by kernel_rfl) (by kernel_rfl) (by kernel_rfl) (fun _ _ _ h => h) (Or.inl ⟨by rfl, ?ydte33c14⟩) hk ?rdte33c14
                        case ydte33c14 => (intro w hSw; (try dsimp only at hSw); go_simp; first | done | with_reducible rfl)
                        simp only [Act.put, List.setIfInBounds_toArray, List.set_cons_zero, List.set_cons_succ]
                        refine wpAnyH_take (i := 15) (oi := { dst := some 164, op := Op.unOp UnOp.not 4 (Operand.tmp 163), type := 4, pos := "law.go:188", after := #[{ on := 14, ground := Ground.data }, { on := 13, ground := Ground.guard }], guard := some (13, true) }) (v := ?vdte33c15) rfl (by kernel_rfl) (by kernel_rfl) (by kernel_rfl) (fun _ _ _ h => h) (Or.inl ⟨by rfl, ?ydte33c15⟩) hk ?rdte33c15
                        case ydte33c15 => (intro w hSw; (try dsimp only at hSw); go_simp; first | done | with_reducible rfl)
                        simp only [Act.put, List.setIfInBounds_toArray, List.set_cons_zero, List.set_cons_succ]
                        refine wpAnyH_take (i := 16) (oi := { dst := some 165, op := Op.move (Operand.tmp 164), type := 4, pos := "law.go:188", after := #[{ on := 15, ground := Ground.data }, { on := 13, ground := Ground.chain }, { on := 13, ground := Ground.guard }], guard := some (13, true) }) (v := ?vdte33c16) rfl (by kernel_rfl) (by kernel_rfl) (by kernel_rfl) (fun _ _ _ h => h) (Or.inl ⟨by rfl, ?ydte33c16⟩) hk ?rdte33c16
                        case ydte33c16 => (intro w hSw; (try dsimp only at hSw); go_simp; first | done | with_reducible rfl)
                        simp only [Act.put, List.setIfInBounds_toArray, List.set_cons_zero, List.set_cons_succ]
                        refine wpAnyH_take (i := 17) (oi := { dst := some 166, op := Op.move (Operand.tmp 19), type := 3, pos := "law.go:188", after := #[{ on := 16, ground := Ground.guard }], guard := some (16, false) }) (v := undef) rfl (by kernel_rfl) (by kernel_rfl) (by kernel_rfl) (fun _ _ _ h => h) (Or.inr ⟨by rfl, rfl⟩) hk ?_
                        simp only [Act.put, List.setIfInBounds_toArray, List.set_cons_zero, List.set_cons_succ]
                        refine wpAnyH_take (i := 18) (oi := { dst := some 167, op := Op.move (Operand.tmp 17), type := 3, pos := "law.go:188", after := #[{ on := 16, ground := Ground.guard }], guard := some (16, false) }) (v := undef) rfl (by kernel_rfl) (by kernel_rfl) (by kernel_rfl) (fun _ _ _ h => h) (Or.inr ⟨by rfl, rfl⟩) hk ?_
                        simp only [Act.put, List.setIfInBounds_toArray, List.set_cons_zero, List.set_cons_succ]
                        refine wpAnyH_take (i := 19) (oi := { dst := some 168, op := Op.indexAddr 47 (Operand.tmp 9) (Operand.tmp 167), type := 0, pos := "law.go:188", after := #[{ on := 18, ground := Ground.data }, { on := 16, ground := Ground.guard }], guard := some (16, false) }) (v := undef) rfl (by kernel_rfl) (by kernel_rfl) (by kernel_rfl) (fun _ _ _ h => h) (Or.inr ⟨by rfl, rfl⟩) hk ?_
                        simp only [Act.put, List.setIfInBounds_toArray, List.set_cons_zero, List.set_cons_succ]
                        refine wpAnyH_take (i := 20) (oi := { dst := some 169, op := Op.load 41 (Operand.tmp 168), type := 41, pos := "law.go:188", after := #[{ on := 19, ground := Ground.data }, { on := 16, ground := Ground.guard }], guard := some (16, false) }) (v := undef) rfl (by kernel_rfl) (by kernel_rfl) (by kernel_rfl) (fun _ _ _ h => h) (Or.inr ⟨by rfl, rfl⟩) hk ?_
                        simp only [Act.put, List.setIfInBounds_toArray, List.set_cons_zero, List.set_cons_succ]
                        refine wpAnyH_take (i := 21) (oi := { dst := some 170, op := Op.call { callee := Callee.builtin Builtin.len, args := #[Operand.tmp 169], argTypes := #[41] }, type := 3, pos := "law.go:188", after := #[{ on := 20, ground := Ground.data }, { on := 16, ground := Ground.guard }], guard := some (16, false) }) (v := undef) rfl (by kernel_rfl) (by kernel_rfl) (by kernel_rfl) (fun _ _ _ h => h) (Or.inr ⟨by rfl, rfl⟩) hk ?_
                        simp only [Act.put, List.setIfInBounds_toArray, List.set_cons_zero, List.set_cons_succ]
                        refine wpAnyH_take (i := 22) (oi := { dst := some 171, op := Op.binOp BinOp.sub 3 (Operand.tmp 170) (Operand.const (Value.int IntKind.i64 1)) 3, type := 3, pos := "law.go:188", after := #[{ on := 21, ground := Ground.data }, { on := 16, ground := Ground.guard }], guard := some (16, false) }) (v := undef) rfl (by kernel_rfl) (by kernel_rfl) (by kernel_rfl) (fun _ _ _ h => h) (Or.inr ⟨by rfl, rfl⟩) hk ?_
                        simp only [Act.put, List.setIfInBounds_toArray, List.set_cons_zero, List.set_cons_succ]
                        refine wpAnyH_take (i := 23) (oi := { dst := some 172, op := Op.binOp BinOp.eql 3 (Operand.tmp 166) (Operand.tmp 171) 3, type := 4, pos := "law.go:188", after := #[{ on := 17, ground := Ground.data }, { on := 22, ground := Ground.data }, { on := 16, ground := Ground.guard }], guard := some (16, false) }) (v := undef) rfl (by kernel_rfl) (by kernel_rfl) (by kernel_rfl) (fun _ _ _ h => h) (Or.inr ⟨by rfl, rfl⟩) hk ?_
                        simp only [Act.put, List.setIfInBounds_toArray, List.set_cons_zero, List.set_cons_succ]
                        refine wpAnyH_take (i := 24) (oi := { dst := some 173, op := Op.pick (Operand.tmp 165) (Operand.const (Value.bool true)) (Operand.tmp 172), type := 4, pos := "law.go:188", after := #[{ on := 16, ground := Ground.data }, { on := 23, ground := Ground.data }, { on := 13, ground := Ground.guard }], guard := some (13, true) }) (v := ?vdte33c17) rfl (by kernel_rfl) (by kernel_rfl) (by kernel_rfl) (fun _ _ _ h => h) (Or.inl ⟨by rfl, ?ydte33c17⟩) hk ?rdte33c17
                        case ydte33c17 => (intro w hSw; (try dsimp only at hSw); go_simp; first | done | with_reducible rfl)
                        simp only [Act.put, List.setIfInBounds_toArray, List.set_cons_zero, List.set_cons_succ]
                        refine wpAnyH_take (i := 25) (oi := { dst := some 174, op := Op.pick (Operand.tmp 162) (Operand.tmp 173) (Operand.const (Value.bool false)), type := 4, pos := "law.go:188", after := #[{ on := 13, ground := Ground.data }, { on := 24, ground := Ground.data }, { on := 1, ground := Ground.guard }], guard := some (1, false) }) (v := ?vdte33c18) rfl (by kernel_rfl) (by kernel_rfl) (by kernel_rfl) (fun _ _ _ h => h) (Or.inl ⟨by rfl, ?ydte33c18⟩) hk ?rdte33c18
                        case ydte33c18 => (intro w hSw; (try dsimp only at hSw); go_simp; first | done | with_reducible rfl)
                        simp only [Act.put, List.setIfInBounds_toArray, List.set_cons_zero, List.set_cons_succ]
                        refine wpAnyH_take (i := 26) (oi := { dst := some 175, op := Op.pick (Operand.tmp 150) (Operand.const (Value.bool true)) (Operand.tmp 174), type := 4, pos := "law.go:188", after := #[{ on := 1, ground := Ground.data }, { on := 25, ground := Ground.data }], guard := none }) (v := ?vdte33c19) rfl (by kernel_rfl) (by kernel_rfl) (by kernel_rfl) (fun _ _ _ h => h) (Or.inl ⟨by rfl, ?ydte33c19⟩) hk ?rdte33c19
                        case ydte33c19 => (intro w hSw; (try dsimp only at hSw); go_simp; first | done | with_reducible rfl)
                        simp only [Act.put, List.setIfInBounds_toArray, List.set_cons_zero, List.set_cons_succ]
                        refine wpAnyH_take (i := 27) (oi := { dst := some 18, op := Op.assign (Operand.tmp 175), type := 4, pos := "law.go:188", after := #[{ on := 26, ground := Ground.data }, { on := 16, ground := Ground.chain }, { on := 0, ground := Ground.phase }, { on := 1, ground := Ground.phase }, { on := 2, ground := Ground.phase }, { on := 3, ground := Ground.phase }, { on := 4, ground := Ground.phase }, { on := 5, ground := Ground.phase }, { on := 6, ground := Ground.phase }, { on := 7, ground := Ground.phase }, { on := 8, ground := Ground.phase }, { on := 9, ground := Ground.phase }, { on := 10, ground := Ground.phase }, { on := 11, ground := Ground.phase }, { on := 12, ground := Ground.phase }, { on := 13, ground := Ground.phase }, { on := 14, ground := Ground.phase }, { on := 15, ground := Ground.phase }, { on := 16, ground := Ground.phase }, { on := 17, ground := Ground.phase }, { on := 18, ground := Ground.phase }, { on := 19, ground := Ground.phase }, { on := 20, ground := Ground.phase }, { on := 21, ground := Ground.phase }, { on := 22, ground := Ground.phase }, { on := 23, ground := Ground.phase }, { on := 24, ground := Ground.phase }, { on := 25, ground := Ground.phase }, { on := 26, ground := Ground.phase }], guard := none }) (v := ?vdte33c20) rfl (by kernel_rfl) (by kernel_rfl) (by kernel_rfl) (fun _ _ _ h => h) (Or.inl ⟨by rfl, ?ydte33c20⟩) hk ?rdte33c20
                        case ydte33c20 => (intro w hSw; (try dsimp only at hSw); go_simp; first | done | with_reducible rfl)
                        simp only [Act.put, List.setIfInBounds_toArray, List.set_cons_zero, List.set_cons_succ]
                        refine wpAnyH_done (by decide +kernel) ?_ _
                        obtain ⟨q9, hq9⟩ := hk.2.2.2.2.2.out
                        clear hk
                        go_wp2
                        go_roundw
                        case rel => exact ⟨t + 1, q9, by omega, by go_num, by rw [HNX.out]; rfl, by first | exact hq9 | rfl⟩
                        case measure => simp [intOf]; omega
                      | true =>
                        have HTE : Bx (((t : Int) == (lv : Int) - 1) = decide (t + 1 = lv)) := ⟨by
                          by_cases he : t + 1 = lv
                          · rw [decide_eq_true he]; simp; omega
                          · rw [decide_eq_false he]; simp; omega⟩
                        refine wp_region_held_drew (S := fun W => W.cell? ⟨b1, o1 + p, none⟩ = some (.slice ai li ci) ∧ W.cell? ⟨gs, p, none⟩ = some (.slice (some ⟨bv1, ov1, none⟩) lv cv) ∧ W.cell? ⟨bv1, ov1 + t, none⟩ = some (.slice ak lk2 ck) ∧ Bts W ai li ci nw ∧ Bts W ak lk2 ck st ∧ Hid (∃ q2, W = w11.drewN q2)) (by kernel_rfl) hk (fun _ => ?_)
                        generalize wr.drew = wk at hk ⊢
                        refine wpAnyH_take (i := 0) (oi := { dst := some 149, op := Op.move (Operand.tmp 18), type := 4, pos := "law.go:188", after := #[], guard := none }) (v := ?vdte33d1) rfl (by kernel_rfl) (by kernel_rfl) (by kernel_rfl) (fun _ _ _ h => h) (Or.inl ⟨by rfl, ?ydte33d1⟩) hk ?rdte33d1
                        case ydte33d1 => (intro w hSw; (try dsimp only at hSw); go_simp; first | done | with_reducible rfl)
                        simp only [Act.put, List.setIfInBounds_toArray, List.set_cons_zero, List.set_cons_succ]
                        refine wpAnyH_take (i := 1) (oi := { dst := some 150, op := Op.move (Operand.tmp 149), type := 4, pos := "law.go:188", after := #[{ on := 0, ground := Ground.data }], guard := none }) (v := ?vdte33d2) rfl (by kernel_rfl) (by kernel_rfl) (by kernel_rfl) (fun _ _ _ h => h) (Or.inl ⟨by rfl, ?ydte33d2⟩) hk ?rdte33d2
                        case ydte33d2 => (intro w hSw; (try dsimp only at hSw); go_simp; first | done | with_reducible rfl)
                        simp only [Act.put, List.setIfInBounds_toArray, List.set_cons_zero, List.set_cons_succ]
                        refine wpAnyH_take (i := 2) (oi := { dst := some 151, op := Op.move (Operand.tmp 16), type := 41, pos := "law.go:188", after := #[{ on := 1, ground := Ground.guard }], guard := some (1, false) }) (v := ?vdte33d3) rfl (by kernel_rfl) (by kernel_rfl) (by kernel_rfl) (fun _ _ _ h => h) (Or.inl ⟨by rfl, ?ydte33d3⟩) hk ?rdte33d3
                        case ydte33d3 => (intro w hSw; (try dsimp only at hSw); go_simp; first | done | with_reducible rfl)
                        simp only [Act.put, List.setIfInBounds_toArray, List.set_cons_zero, List.set_cons_succ]
                        refine wpAnyH_take (i := 3) (oi := { dst := some 152, op := Op.move (Operand.tmp 17), type := 3, pos := "law.go:188", after := #[{ on := 1, ground := Ground.guard }], guard := some (1, false) }) (v := ?vdte33d4) rfl (by kernel_rfl) (by kernel_rfl) (by kernel_rfl) (fun _ _ _ h => h) (Or.inl ⟨by rfl, ?ydte33d4⟩) hk ?rdte33d4
                        case ydte33d4 => (intro w hSw; (try dsimp only at hSw); go_simp; first | done | with_reducible rfl)
                        simp only [Act.put, List.setIfInBounds_toArray, List.set_cons_zero, List.set_cons_succ]
                        refine wpAnyH_take (i := 4) (oi := { dst := some 153, op := Op.indexAddr 41 (Operand.tmp 151) (Operand.tmp 152), type := 0, pos := "law.go:188", after := #[{ on := 2, ground := Ground.data }, { on := 3, ground := Ground.data }, { on := 1, ground := Ground.guard }], guard := some (1, false) }) (v := ?vdte33d5) rfl (by kernel_rfl) (by kernel_rfl) (by kernel_rfl) (fun _ _ _ h => h) (Or.inl ⟨by rfl, ?ydte33d5⟩) hk ?rdte33d5
                        case ydte33d5 => (intro w hSw; (try dsimp only at hSw); go_simp; first | done | with_reducible rfl)
                        simp only [Act.put, List.setIfInBounds_toArray, List.set_cons_zero, List.set_cons_succ]
                        refine wpAnyH_take (i := 5) (oi := { dst := some 154, op := Op.load 33 (Operand.tmp 153), type := 33, pos := "law.go:188", after := #[{ on := 4, ground := Ground.data }, { on := 1, ground := Ground.guard }], guard := some (1, false) }) (v := ?vdte33d6) rfl (by kernel_rfl) (by kernel_rfl) (by kernel_rfl) (fun _ _ _ h => h) (Or.inl ⟨by rfl, ?ydte33d6⟩) hk ?rdte33d6
                        case ydte33d6 => (intro w hSw; have hcw := hSw.1; clear hSw; go_simp; first | done | with_reducible rfl)
                        simp only [Act.put, List.setIfInBounds_toArray, List.set_cons_zero, List.set_cons_succ]
                        refine wpAnyH_take (i := 6) (oi := { dst := some 155, op := Op.move (Operand.tmp 17), type := 3, pos := "law.go:188", after := #[{ on := 1, ground := Ground.guard }], guard := some (1, false) }) (v := ?vdte33d7) rfl (by kernel_rfl) (by kernel_rfl) (by kernel_rfl) (fun _ _ _ h => h) (Or.inl ⟨by rfl, ?ydte33d7⟩) hk ?rdte33d7
                        case ydte33d7 => (intro w hSw; (try dsimp only at hSw); go_simp; first | done | with_reducible rfl)
                        simp only [Act.put, List.setIfInBounds_toArray, List.set_cons_zero, List.set_cons_succ]
                        refine wpAnyH_take (i := 7) (oi := { dst := some 156, op := Op.indexAddr 47 (Operand.tmp 9) (Operand.tmp 155), type := 0, pos := "law.go:188", after := #[{ on := 6, ground := Ground.data }, { on := 1, ground := Ground.guard }], guard := some (1, false) }) (v := ?vdte33d8) rfl (by kernel_rfl) (by kernel_rfl) (by kernel_rfl) (fun _ _ _ h => h) (Or.inl ⟨by rfl, ?ydte33d8⟩) hk ?rdte33d8
                        case ydte33d8 => (intro w hSw; (try dsimp only at hSw); go_simp; first | done | with_reducible rfl)
                        simp only [Act.put, List.setIfInBounds_toArray, List.set_cons_zero, List.set_cons_succ]
                        refine wpAnyH_take (i := 8) (oi := { dst := some 157, op := Op.load 41 (Operand.tmp 156), type := 41, pos := "law.go:188", after := #[{ on := 7, ground := Ground.data }, { on := 1, ground := Ground.guard }], guard := some (1, false) }) (v := ?vdte33d9) rfl (by kernel_rfl) (by kernel_rfl) (by kernel_rfl) (fun _ _ _ h => h) (Or.inl ⟨by rfl, ?ydte33d9⟩) hk ?rdte33d9
                        case ydte33d9 => (intro w hSw; have hcw := hSw.2.1; clear hSw; go_simp; first | done | with_reducible rfl)
                        simp only [Act.put, List.setIfInBounds_toArray, List.set_cons_zero, List.set_cons_succ]
                        refine wpAnyH_take (i := 9) (oi := { dst := some 158, op := Op.move (Operand.tmp 19), type := 3, pos := "law.go:188", after := #[{ on := 1, ground := Ground.guard }], guard := some (1, false) }) (v := ?vdte33d10) rfl (by kernel_rfl) (by kernel_rfl) (by kernel_rfl) (fun _ _ _ h => h) (Or.inl ⟨by rfl, ?ydte33d10⟩) hk ?rdte33d10
                        case ydte33d10 => (intro w hSw; (try dsimp only at hSw); go_simp; first | done | with_reducible rfl)
                        simp only [Act.put, List.setIfInBounds_toArray, List.set_cons_zero, List.set_cons_succ]
                        refine wpAnyH_take (i := 10) (oi := { dst := some 159, op := Op.indexAddr 41 (Operand.tmp 157) (Operand.tmp 158), type := 0, pos := "law.go:188", after := #[{ on := 8, ground := Ground.data }, { on := 9, ground := Ground.data }, { on := 1, ground := Ground.guard }], guard := some (1, false) }) (v := ?vdte33d11) rfl (by kernel_rfl) (by kernel_rfl) (by kernel_rfl) (fun _ _ _ h => h) (Or.inl ⟨by rfl, ?ydte33d11⟩) hk ?rdte33d11
                        case ydte33d11 => (intro w hSw; (try dsimp only at hSw); go_simp; first | done | with_reducible rfl)
                        simp only [Act.put, List.setIfInBounds_toArray, List.set_cons_zero, List.set_cons_succ]
                        refine wpAnyH_take (i := 11) (oi := { dst := some 160, op := Op.load 33 (Operand.tmp 159), type := 33, pos := "law.go:188", after := #[{ on := 10, ground := Ground.data }, { on := 1, ground := Ground.guard }], guard := some (1, false) }) (v := ?vdte33d12) rfl (by kernel_rfl) (by kernel_rfl) (by kernel_rfl) (fun _ _ _ h => h) (Or.inl ⟨by rfl, ?ydte33d12⟩) hk ?rdte33d12
                        case ydte33d12 => (intro w hSw; have hcw := hSw.2.2.1; clear hSw; go_simp; first | done | with_reducible rfl)
                        simp only [Act.put, List.setIfInBounds_toArray, List.set_cons_zero, List.set_cons_succ]
                        refine wpAnyH_ready (rs := [12]) (by decide +kernel) (by simp) ?_
                        refine AllReadyH.cons (o := { dst := some 161, op := Op.call { callee := Callee.value (Operand.func 24), args := #[Operand.tmp 154, Operand.tmp 160], argTypes := #[33, 33] }, type := 4, pos := "law.go:188", after := #[{ on := 5, ground := Ground.data }, { on := 11, ground := Ground.data }, { on := 1, ground := Ground.chain }, { on := 1, ground := Ground.guard }], guard := some (1, false) }) rfl (fun K hK => ?_) AllReadyH.nil
                        go_simp
                        refine (same_any ai ak li lk2 ci ck nw st _ hk.2.2.2.1 hk.2.2.2.2.1).mono ?_
                        rintro e1 w8 ⟨rfl, q8, hq8⟩
                        rw [hd]
                        replace hk : w8.cell? ⟨b1, o1 + p, none⟩ = some (.slice ai li ci) ∧ w8.cell? ⟨gs, p, none⟩ = some (.slice (some ⟨bv1, ov1, none⟩) lv cv) ∧ w8.cell? ⟨bv1, ov1 + t, none⟩ = some (.slice ak lk2 ck) ∧ Bts w8 ai li ci nw ∧ Bts w8 ak lk2 ck st ∧ Hid (∃ q2, w8 = w11.drewN q2) := by
                          rw [hq8]
                          refine ⟨hk.1, hk.2.1, hk.2.2.1, hk.2.2.2.1.drewN q8, hk.2.2.2.2.1.drewN q8, ?_⟩
                          obtain ⟨q9, hq9⟩ := hk.2.2.2.2.2.out
                          exact ⟨q9 + q8, by rw [hq9]; simp⟩
                        clear hq8
                        refine hK.out _ _ hk (fun _ => ?_)
                        clear hK K
                        try simp only [Act.put, List.setIfInBounds_toArray, List.set_cons_zero, List.set_cons_succ]
                        refine wpAnyH_take (i := 13) (oi := { dst := some 162, op := Op.move (Operand.tmp 161), type := 4, pos := "law.go:188", after := #[{ on := 12, ground := Ground.data }, { on := 12, ground := Ground.chain }, { on := 1, ground := Ground.guard }], guard := some (1, false) }) (v := ?vdte33d13) rfl (by kernel_rfl) (by kernel_rfl) (by kernel_rfl) (fun _ _ _ h => h) (Or.inl ⟨by rfl, ?ydte33d13⟩) hk ?rdte33d13
                        case ydte33d13 => (intro w hSw; (try dsimp only at hSw); go_simp; first | done | with_reducible rfl)
                        simp only [Act.put, List.setIfInBounds_toArray, List.set_cons_zero, List.set_cons_succ]
                        refine wpAnyH_take (i := 14) (oi := { dst := some 163, op := Op.move (Operand.tmp 14), type := 4, pos := "law.go:188", after := #[{ on := 13, ground := Ground.guard }], guard := some (13, true) }) (v := ?vdte33d14) rfl (by kernel_rfl) (by kernel_rfl) (by kernel_rfl) (fun _ _ _ h => h) (Or.inl ⟨by rfl, ?ydte33d14⟩) hk ?rdte33d14
                        case ydte33d14 => (intro w hSw; (try dsimp only at hSw); go_simp; first | done | with_reducible rfl)
                        simp only [Act.put, List.setIfInBounds_toArray, List.set_cons_zero, List.set_cons_succ]
                        refine wpAnyH_take (i := 15) (oi := { dst := some 164, op := Op.unOp UnOp.not 4 (Operand.tmp 163), type := 4, pos := "law.go:188", after := #[{ on := 14, ground := Ground.data }, { on := 13, ground := Ground.guard }], guard := some (13, true) }) (v := ?vdte33d15) rfl (by kernel_rfl) (by kernel_rfl) (by kernel_rfl) (fun _ _ _ h => h) (Or.inl ⟨by rfl, ?ydte33d15⟩) hk ?rdte33d15
                        case ydte33d15 => (intro w hSw; (try dsimp only at hSw); go_simp; first | done | with_reducible rfl)
                        simp only [Act.put, List.setIfInBounds_toArray, List.set_cons_zero, List.set_cons_succ]
                        refine wpAnyH_take (i := 16) (oi := { dst := some 165, op := Op.move (Operand.tmp 164), type := 4, pos := "law.go:188", after := #[{ on := 15, ground := Ground.data }, { on := 13, ground := Ground.chain }, { on := 13, ground := Ground.guard }], guard := some (13, true) }) (v := ?vdte33d16) rfl (by kernel_rfl) (by kernel_rfl) (by kernel_rfl) (fun _ _ _ h => h) (Or.inl ⟨by rfl, ?ydte33d16⟩) hk ?rdte33d16
                        case ydte33d16 => (intro w hSw; (try dsimp only at hSw); go_simp; first | done | with_reducible rfl)
                        simp only [Act.put, List.setIfInBounds_toArray, List.set_cons_zero, List.set_cons_succ]
                        refine wpAnyH_take (i := 17) (oi := { dst := some 166, op := Op.move (Operand.tmp 19), type := 3, pos := "law.go:188", after := #[{ on := 16, ground := Ground.guard }], guard := some (16, false) }) (v := ?vdte33d17) rfl (by kernel_rfl) (by kernel_rfl) (by kernel_rfl) (fun _ _ _ h => h) (Or.inl ⟨by rfl, ?ydte33d17⟩) hk ?rdte33d17
                        case ydte33d17 => (intro w hSw; (try dsimp only at hSw); go_simp; first | done | with_reducible rfl)
                        simp only [Act.put, List.setIfInBounds_toArray, List.set_cons_zero, List.set_cons_succ]
                        refine wpAnyH_take (i := 18) (oi := { dst := some 167, op := Op.move (Operand.tmp 17), type := 3, pos := "law.go:188", after := #[{ on := 16, ground := Ground.guard }], guard := some (16, false) }) (v := ?vdte33d18) rfl (by kernel_rfl) (by kernel_rfl) (by kernel_rfl) (fun _ _ _ h => h) (Or.inl ⟨by rfl, ?ydte33d18⟩) hk ?rdte33d18
                        case ydte33d18 => (intro w hSw; (try dsimp only at hSw); go_simp; first | done | with_reducible rfl)
                        simp only [Act.put, List.setIfInBounds_toArray, List.set_cons_zero, List.set_cons_succ]
                        refine wpAnyH_take (i := 19) (oi := { dst := some 168, op := Op.indexAddr 47 (Operand.tmp 9) (Operand.tmp 167), type := 0, pos := "law.go:188", after := #[{ on := 18, ground := Ground.data }, { on := 16, ground := Ground.guard }], guard := some (16, false) }) (v := ?vdte33d19) rfl (by kernel_rfl) (by kernel_rfl) (by kernel_rfl) (fun _ _ _ h => h) (Or.inl ⟨by rfl, ?ydte33d19⟩) hk ?rdte33d19
                        case ydte33d19 => (intro w hSw; (try dsimp only at hSw); go_simp; first | done | with_reducible rfl)
                        simp only [Act.put, List.setIfInBounds_toArray, List.set_cons_zero, List.set_cons_succ]
                        refine wpAnyH_take (i := 20) (oi := { dst := some 169, op := Op.load 41 (Operand.tmp 168), type := 41, pos := "law.go:188", after := #[{ on := 19, ground := Ground.data }, { on := 16, ground := Ground.guard }], guard := some (16, false) }) (v := ?vdte33d20) rfl (by kernel_rfl) (by kernel_rfl) (by kernel_rfl) (fun _ _ _ h => h) (Or.inl ⟨by rfl, ?ydte33d20⟩) hk ?rdte33d20
                        case ydte33d20 => (intro w hSw; have hcw := hSw.2.1; clear hSw; go_simp; first | done | with_reducible rfl)
                        simp only [Act.put, List.setIfInBounds_toArray, List.set_cons_zero, List.set_cons_succ]
                        refine wpAnyH_take (i := 21) (oi := { dst := some 170, op := Op.call { callee := Callee.builtin Builtin.len, args := #[Operand.tmp 169], argTypes := #[41] }, type := 3, pos := "law.go:188", after := #[{ on := 20, ground := Ground.data }, { on := 16, ground := Ground.guard }], guard := some (16, false) }) (v := ?vdte33d21) rfl (by kernel_rfl) (by kernel_rfl) (by kernel_rfl) (fun _ _ _ h => h) (Or.inl ⟨by rfl, ?ydte33d21⟩) hk ?rdte33d21
                        case ydte33d21 => (intro w hSw; (try dsimp only at hSw); go_simp; first | done | with_reducible rfl)
                        simp only [Act.put, List.setIfInBounds_toArray, List.set_cons_zero, List.set_cons_succ]
                        refine wpAnyH_take (i := 22) (oi := { dst := some 171, op := Op.binOp BinOp.sub 3 (Operand.tmp 170) (Operand.const (Value.int IntKind.i64 1)) 3, type := 3, pos := "law.go:188", after := #[{ on := 21, ground := Ground.data }, { on := 16, ground := Ground.guard }], guard := some (16, false) }) (v := ?vdte33d22) rfl (by kernel_rfl) (by kernel_rfl) (by kernel_rfl) (fun _ _ _ h => h) (Or.inl ⟨by rfl, ?ydte33d22⟩) hk ?rdte33d22
                        case ydte33d22 => (intro w hSw; (try dsimp only at hSw); go_simp; first | done | with_reducible rfl)
                        simp only [Act.put, List.setIfInBounds_toArray, List.set_cons_zero, List.set_cons_succ]
                        refine wpAnyH_take (i := 23) (oi := { dst := some 172, op := Op.binOp BinOp.eql 3 (Operand.tmp 166) (Operand.tmp 171) 3, type := 4, pos := "law.go:188", after := #[{ on := 17, ground := Ground.data }, { on := 22, ground := Ground.data }, { on := 16, ground := Ground.guard }], guard := some (16, false) }) (v := ?vdte33d23) rfl (by kernel_rfl) (by kernel_rfl) (by kernel_rfl) (fun _ _ _ h => h) (Or.inl ⟨by rfl, ?ydte33d23⟩) hk ?rdte33d23
                        case ydte33d23 => (intro w hSw; (try dsimp only at hSw); go_simp; first | done | with_reducible rfl)
                        simp only [Act.put, List.setIfInBounds_toArray, List.set_cons_zero, List.set_cons_succ]
                        refine wpAnyH_take (i := 24) (oi := { dst := some 173, op := Op.pick (Operand.tmp 165) (Operand.const (Value.bool true)) (Operand.tmp 172), type := 4, pos := "law.go:188", after := #[{ on := 16, ground := Ground.data }, { on := 23, ground := Ground.data }, { on := 13, ground := Ground.guard }], guard := some (13, true) }) (v := ?vdte33d24) rfl (by kernel_rfl) (by kernel_rfl) (by kernel_rfl) (fun _ _ _ h => h) (Or.inl ⟨by rfl, ?ydte33d24⟩) hk ?rdte33d24
                        case ydte33d24 => (intro w hSw; (try dsimp only at hSw); go_simp; first | done | with_reducible rfl)
                        simp only [Act.put, List.setIfInBounds_toArray, List.set_cons_zero, List.set_cons_succ]
                        refine wpAnyH_take (i := 25) (oi := { dst := some 174, op := Op.pick (Operand.tmp 162) (Operand.tmp 173) (Operand.const (Value.bool false)), type := 4, pos := "law.go:188", after := #[{ on := 13, ground := Ground.data }, { on := 24, ground := Ground.data }, { on := 1, ground := Ground.guard }], guard := some (1, false) }) (v := ?vdte33d25) rfl (by kernel_rfl) (by kernel_rfl) (by kernel_rfl) (fun _ _ _ h => h) (Or.inl ⟨by rfl, ?ydte33d25⟩) hk ?rdte33d25
                        case ydte33d25 => (intro w hSw; (try dsimp only at hSw); go_simp; first | done | with_reducible rfl)
                        simp only [Act.put, List.setIfInBounds_toArray, List.set_cons_zero, List.set_cons_succ]
                        refine wpAnyH_take (i := 26) (oi := { dst := some 175, op := Op.pick (Operand.tmp 150) (Operand.const (Value.bool true)) (Operand.tmp 174), type := 4, pos := "law.go:188", after := #[{ on := 1, ground := Ground.data }, { on := 25, ground := Ground.data }], guard := none }) (v := ?vdte33d26) rfl (by kernel_rfl) (by kernel_rfl) (by kernel_rfl) (fun _ _ _ h => h) (Or.inl ⟨by rfl, ?ydte33d26⟩) hk ?rdte33d26
                        case ydte33d26 => (intro w hSw; (try dsimp only at hSw); go_simp; first | done | with_reducible rfl)
                        simp only [Act.put, List.setIfInBounds_toArray, List.set_cons_zero, List.set_cons_succ]
                        refine wpAnyH_take (i := 27) (oi := { dst := some 18, op := Op.assign (Operand.tmp 175), type := 4, pos := "law.go:188", after := #[{ on := 26, ground := Ground.data }, { on := 16, ground := Ground.chain }, { on := 0, ground := Ground.phase }, { on := 1, ground := Ground.phase }, { on := 2, ground := Ground.phase }, { on := 3, ground := Ground.phase }, { on := 4, ground := Ground.phase }, { on := 5, ground := Ground.phase }, { on := 6, ground := Ground.phase }, { on := 7, ground := Ground.phase }, { on := 8, ground := Ground.phase }, { on := 9, ground := Ground.phase }, { on := 10, ground := Ground.phase }, { on := 11, ground := Ground.phase }, { on := 12, ground := Ground.phase }, { on := 13, ground := Ground.phase }, { on := 14, ground := Ground.phase }, { on := 15, ground := Ground.phase }, { on := 16, ground := Ground.phase }, { on := 17, ground := Ground.phase }, { on := 18, ground := Ground.phase }, { on := 19, ground := Ground.phase }, { on := 20, ground := Ground.phase }, { on := 21, ground := Ground.phase }, { on := 22, ground := Ground.phase }, { on := 23, ground := Ground.phase }, { on := 24, ground := Ground.phase }, { on := 25, ground := Ground.phase }, { on := 26, ground := Ground.phase }], guard := none }) (v := ?vdte33d27) rfl (by kernel_rfl) (by kernel_rfl) (by kernel_rfl) (fun _ _ _ h => h) (Or.inl ⟨by rfl, ?ydte33d27⟩) hk ?rdte33d27
                        case ydte33d27 => (intro w hSw; (try dsimp only at hSw); go_simp; first | done | with_reducible rfl)
                        simp only [Act.put, List.setIfInBounds_toArray, List.set_cons_zero, List.set_cons_succ]
                        refine wpAnyH_done (by decide +kernel) ?_ _
                        obtain ⟨q9, hq9⟩ := hk.2.2.2.2.2.out
                        clear hk
                        go_wp2
                        go_roundw
                        case rel => exact ⟨t + 1, q9, by omega, by go_num, by rw [HNX.out, ← HTE.out]; rfl, by first | exact hq9 | rfl⟩
                        case measure => simp [intOf]; omega
                    · have hd : decide (nw = st) = false := by simpa using hE
                      rw [hd] at HNX
                      clear hE
                      refine wp_region_held_drew (S := fun W => W.cell? ⟨b1, o1 + p, none⟩ = some (.slice ai li ci) ∧ W.cell? ⟨gs, p, none⟩ = some (.slice (some ⟨bv1, ov1, none⟩) lv cv) ∧ W.cell? ⟨bv1, ov1 + t, none⟩ = some (.slice ak lk2 ck) ∧ Bts W ai li ci nw ∧ Bts W ak lk2 ck st ∧ Hid (∃ q2, W = w11.drewN q2)) (by kernel_rfl) hk (fun _ => ?_)
                      generalize wr.drew = wk at hk ⊢
                      refine wpAnyH_take (i := 0) (oi := { dst := some 149, op := Op.move (Operand.tmp 18), type := 4, pos := "law.go:188", after := #[], guard := none }) (v := ?vdte33b1) rfl (by kernel_rfl) (by kernel_rfl) (by kernel_rfl) (fun _ _ _ h => h) (Or.inl ⟨by rfl, ?ydte33b1⟩) hk ?rdte33b1
                      case ydte33b1 => (intro w hSw; (try dsimp only at hSw); go_simp; first | done | with_reducible rfl)
                      simp only [Act.put, List.setIfInBounds_toArray, List.set_cons_zero, List.set_cons_succ]
                      refine wpAnyH_take (i := 1) (oi := { dst := some 150, op := Op.move (Operand.tmp 149), type := 4, pos := "law.go:188", after := #[{ on := 0, ground := Ground.data }], guard := none }) (v := ?vdte33b2) rfl (by kernel_rfl) (by kernel_rfl) (by kernel_rfl) (fun _ _ _ h => h) (Or.inl ⟨by rfl, ?ydte33b2⟩) hk ?rdte33b2
                      case ydte33b2 => (intro w hSw; (try dsimp only at hSw); go_simp; first | done | with_reducible rfl)
                      simp only [Act.put, List.setIfInBounds_toArray, List.set_cons_zero, List.set_cons_succ]
                      refine wpAnyH_take (i := 2) (oi := { dst := some 151, op := Op.move (Operand.tmp 16), type := 41, pos := "law.go:188", after := #[{ on := 1, ground := Ground.guard }], guard := some (1, false) }) (v := ?vdte33b3) rfl (by kernel_rfl) (by kernel_rfl) (by kernel_rfl) (fun _ _ _ h => h) (Or.inl ⟨by rfl, ?ydte33b3⟩) hk ?rdte33b3
                      case ydte33b3 => (intro w hSw; (try dsimp only at hSw); go_simp; first | done | with_reducible rfl)
                      simp only [Act.put, List.setIfInBounds_toArray, List.set_cons_zero, List.set_cons_succ]
                      refine wpAnyH_take (i := 3) (oi := { dst := some 152, op := Op.move (Operand.tmp 17), type := 3, pos := "law.go:188", after := #[{ on := 1, ground := Ground.guard }], guard := some (1, false) }) (v := ?vdte33b4) rfl (by kernel_rfl) (by kernel_rfl) (by kernel_rfl) (fun _ _ _ h => h) (Or.inl ⟨by rfl, ?ydte33b4⟩) hk ?rdte33b4
                      case ydte33b4 => (intro w hSw; (try dsimp only at hSw); go_simp; first | done | with_reducible rfl)
                      simp only [Act.put, List.setIfInBounds_toArray, List.set_cons_zero, List.set_cons_succ]
                      refine wpAnyH_take (i := 4) (oi := { dst := some 153, op := Op.indexAddr 41 (Operand.tmp 151) (Operand.tmp 152), type := 0, pos := "law.go:188", after := #[{ on := 2, ground := Ground.data }, { on := 3, ground := Ground.data }, { on := 1, ground := Ground.guard }], guard := some (1, false) }) (v := ?vdte33b5) rfl (by kernel_rfl) (by kernel_rfl) (by kernel_rfl) (fun _ _ _ h => h) (Or.inl ⟨by rfl, ?ydte33b5⟩) hk ?rdte33b5
                      case ydte33b5 => (intro w hSw; (try dsimp only at hSw); go_simp; first | done | with_reducible rfl)
                      simp only [Act.put, List.setIfInBounds_toArray, List.set_cons_zero, List.set_cons_succ]
                      refine wpAnyH_take (i := 5) (oi := { dst := some 154, op := Op.load 33 (Operand.tmp 153), type := 33, pos := "law.go:188", after := #[{ on := 4, ground := Ground.data }, { on := 1, ground := Ground.guard }], guard := some (1, false) }) (v := ?vdte33b6) rfl (by kernel_rfl) (by kernel_rfl) (by kernel_rfl) (fun _ _ _ h => h) (Or.inl ⟨by rfl, ?ydte33b6⟩) hk ?rdte33b6
                      case ydte33b6 => (intro w hSw; have hcw := hSw.1; clear hSw; go_simp; first | done | with_reducible rfl)
                      simp only [Act.put, List.setIfInBounds_toArray, List.set_cons_zero, List.set_cons_succ]
                      refine wpAnyH_take (i := 6) (oi := { dst := some 155, op := Op.move (Operand.tmp 17), type := 3, pos := "law.go:188", after := #[{ on := 1, ground := Ground.guard }], guard := some (1, false) }) (v := ?vdte33b7) rfl (by kernel_rfl) (by kernel_rfl) (by kernel_rfl) (fun _ _ _ h => h) (Or.inl ⟨by rfl, ?ydte33b7⟩) hk ?rdte33b7
                      case ydte33b7 => (intro w hSw; (try dsimp only at hSw); go_simp; first | done | with_reducible rfl)
                      simp only [Act.put, List.setIfInBounds_toArray, List.set_cons_zero, List.set_cons_succ]
                      refine wpAnyH_take (i := 7) (oi := { dst := some 156, op := Op.indexAddr 47 (Operand.tmp 9) (Operand.tmp 155), type := 0, pos := "law.go:188", after := #[{ on := 6, ground := Ground.data }, { on := 1, ground := Ground.guard }], guard := some (1, false) }) (v := ?vdte33b8) rfl (by kernel_rfl) (by kernel_rfl) (by kernel_rfl) (fun _ _ _ h => h) (Or.inl ⟨by rfl, ?ydte33b8⟩) hk ?rdte33b8
                      case ydte33b8 => (intro w hSw; (try dsimp only at hSw); go_simp; first | done | with_reducible rfl)
                      simp only [Act.put, List.setIfInBounds_toArray, List.set_cons_zero, List.set_cons_succ]
                      refine wpAnyH_take (i := 8) (oi := { dst := some 157, op := Op.load 41 (Operand.tmp 156), type := 41, pos := "law.go:188", after := #[{ on := 7, ground := Ground.data }, { on := 1, ground := Ground.guard }], guard := some (1, false) }) (v := ?vdte33b9) rfl (by kernel_rfl) (by kernel_rfl) (by kernel_rfl) (fun _ _ _ h => h) (Or.inl ⟨by rfl, ?ydte33b9⟩) hk ?rdte33b9
                      case ydte33b9 => (intro w hSw; have hcw := hSw.2.1; clear hSw; go_simp; first | done | with_reducible rfl)
                      simp only [Act.put, List.setIfInBounds_toArray, List.set_cons_zero, List.set_cons_succ]
                      refine wpAnyH_take (i := 9) (oi := { dst := some 158, op := Op.move (Operand.tmp 19), type := 3, pos := "law.go:188", after := #[{ on := 1, ground := Ground.guard }], guard := some (1, false) }) (v := ?vdte33b10) rfl (by kernel_rfl) (by kernel_rfl) (by kernel_rfl) (fun _ _ _ h => h) (Or.inl ⟨by rfl, ?ydte33b10⟩) hk ?rdte33b10
                      case ydte33b10 => (intro w hSw; (try dsimp only at hSw); go_simp; first | done | with_reducible rfl)
                      simp only [Act.put, List.setIfInBounds_toArray, List.set_cons_zero, List.set_cons_succ]
                      refine wpAnyH_take (i := 10) (oi := { dst := some 159, op := Op.indexAddr 41 (Operand.tmp 157) (Operand.tmp 158), type := 0, pos := "law.go:188", after := #[{ on := 8, ground := Ground.data }, { on := 9, ground := Ground.data }, { on := 1, ground := Ground.guard }], guard := some (1, false) }) (v := ?vdte33b11) rfl (by kernel_rfl) (by kernel_rfl) (by kernel_rfl) (fun _ _ _ h => h) (Or.inl ⟨by rfl, ?ydte33b11⟩) hk ?rdte33b11
                      case ydte33b11 => (intro w hSw; (try dsimp only at hSw); go_simp; first | done | with_reducible rfl)
                      simp only [Act.put, List.setIfInBounds_toArray, List.set_cons_zero, List.set_cons_succ]
                      refine wpAnyH_take (i := 11) (oi := { dst := some 160, op := Op.load 33 (Operand.tmp 159), type := 33, pos := "law.go:188", after := #[{ on := 10, ground := Ground.data }, { on := 1, ground := Ground.guard }], guard := some (1, false) }) (v := ?vdte33b12) rfl (by kernel_rfl) (by kernel_rfl) (by kernel_rfl) (fun _ _ _ h => h) (Or.inl ⟨by rfl, ?ydte33b12⟩) hk ?rdte33b12
                      case ydte33b12 => (intro w hSw; have hcw := hSw.2.2.1; clear hSw; go_simp; first | done | with_reducible rfl)
                      simp only [Act.put, List.setIfInBounds_toArray, List.set_cons_zero, List.set_cons_succ]
                      refine wpAnyH_ready (rs := [12]) (by decide +kernel) (by simp) ?_
                      refine AllReadyH.cons (o := { dst := some 161, op := Op.call { callee := Callee.value (Operand.func 24), args := #[Operand.tmp 154, Operand.tmp 160], argTypes := #[33, 33] }, type := 4, pos := "law.go:188", after := #[{ on := 5, ground := Ground.data }, { on := 11, ground := Ground.data }, { on := 1, ground := Ground.chain }, { on := 1, ground := Ground.guard }], guard := some (1, false) }) rfl (fun K hK => ?_) AllReadyH.nil
                      go_simp
                      refine (same_any ai ak li lk2 ci ck nw st _ hk.2.2.2.1 hk.2.2.2.2.1).mono ?_
                      rintro e1 w8 ⟨rfl, q8, hq8⟩
                      rw [hd]
                      replace hk : w8.cell? ⟨b1, o1 + p, none⟩ = some (.slice ai li ci) ∧ w8.cell? ⟨gs, p, none⟩ = some (.slice (some ⟨bv1, ov1, none⟩) lv cv) ∧ w8.cell? ⟨bv1, ov1 + t, none⟩ = some (.slice ak lk2 ck) ∧ Bts w8 ai li ci nw ∧ Bts w8 ak lk2 ck st ∧ Hid (∃ q2, w8 = w11.drewN q2) := by
                        rw [hq8]
                        refine ⟨hk.1, hk.2.1, hk.2.2.1, hk.2.2.2.1.drewN q8, hk.2.2.2.2.1.drewN q8, ?_⟩
                        obtain ⟨q9, hq9⟩ := hk.2.2.2.2.2.out
                        exact ⟨q9 + q8, by rw [hq9]; simp⟩
                      clear hq8
                      refine hK.out _ _ hk (fun _ => ?_)
                      clear hK K
                      try simp only [Act.put, List.setIfInBounds_toArray, List.set_cons_zero, List.set_cons_succ]
                      refine wpAnyH_take (i := 13) (oi := { dst := some 162, op := Op.move (Operand.tmp 161), type := 4, pos := "law.go:188", after := #[{ on := 12, ground := Ground.data }, { on := 12, ground := Ground.chain }, { on := 1, ground := Ground.guard }], guard := some (1, false) }) (v := ?vdte33b13) rfl (by kernel_rfl) (by kernel_rfl) (by kernel_rfl) (fun _ _ _ h => h) (Or.inl ⟨by rfl, ?ydte33b13⟩) hk ?rdte33b13
                      case ydte33b13 => (intro w hSw; (try dsimp only at hSw); go_simp; first | done | with_reducible rfl)
                      simp only [Act.put, List.setIfInBounds_toArray, List.set_cons_zero, List.set_cons_succ]
                      refine wpAnyH_take (i := 14) (oi := { dst := some 163, op := Op.move (Operand.tmp 14), type := 4, pos := "law.go:188", after := #[{ on := 13, ground := Ground.guard }], guard := some (13, true) }) (v := undef) rfl (by kernel_rfl) (by kernel_rfl) (by kernel_rfl) (fun _ _ _ h => h) (Or.inr ⟨by rfl, rfl⟩) hk ?_
                      simp only [Act.put, List.setIfInBounds_toArray, List.set_cons_zero, List.set_cons_succ]
                      refine wpAnyH_take (i := 15) (oi := { dst := some 164, op := Op.unOp UnOp.not 4 (Operand.tmp 163), type := 4, pos := "law.go:188", after := #[{ on := 14, ground := Ground.data }, { on := 13, ground := Ground.guard }], guard := some (13, true) }) (v := undef) rfl (by kernel_rfl) (by kernel_rfl) (by kernel_rfl) (fun _ _ _ h => h) (Or.inr ⟨by rfl, rfl⟩) hk ?_
                      simp only [Act.put, List.setIfInBounds_toArray, List.set_cons_zero, List.set_cons_succ]
                      refine wpAnyH_take (i := 16) (oi := { dst := some 165, op := Op.move (Operand.tmp 164), type := 4, pos := "law.go:188", after := #[{ on := 15, ground := Ground.data }, { on := 13, ground := Ground.chain }, { on := 13, ground := Ground.guard }], guard := some (13, true) }) (v := undef) rfl (by kernel_rfl) (by kernel_rfl) (by kernel_rfl) (fun _ _ _ h => h) (Or.inr ⟨by rfl, rfl⟩) hk ?_
                      simp only [Act.put, List.setIfInBounds_toArray, List.set_cons_zero, List.set_cons_succ]
                      refine wpAnyH_take (i := 17) (oi := { dst := some 166, op := Op.move (Operand.tmp 19), type := 3, pos := "law.go:188", after := #[{ on := 16, ground := Ground.guard }], guard := some (16, false) }) (v := undef) rfl (by kernel_rfl) (by kernel_rfl) (by kernel_rfl) (fun _ _ _ h => h) (Or.inr ⟨by rfl, rfl⟩) hk ?_
                      simp only [Act.put, List.setIfInBounds_toArray, List.set_cons_zero, List.set_cons_succ]
                      refine wpAnyH_take (i := 18) (oi := { dst := some 167, op := Op.move (Operand.tmp 17), type := 3, pos := "law.go:188", after := #[{ on := 16, ground := Ground.guard }], guard := some (16, false) }) (v := undef) rfl (by kernel_rfl) (by kernel_rfl) (by kernel_rfl) (fun _ _ _ h => h) (Or.inr ⟨by rfl, rfl⟩) hk ?_
                      simp only [Act.put, List.setIfInBounds_toArray, List.set_cons_zero, List.set_cons_succ]
                      refine wpAnyH_take (i := 19) (oi := { dst := some 168, op := Op.indexAddr 47 (Operand.tmp 9) (Operand.tmp 167), type := 0, pos := "law.go:188", after := #[{ on := 18, ground := Ground.data }, { on := 16, ground := Ground.guard }], guard := some (16, false) }) (v := undef) rfl (by kernel_rfl) (by kernel_rfl) (by kernel_rfl) (fun _ _ _ h => h) (Or.inr ⟨by rfl, rfl⟩) hk ?_
                      simp only [Act.put, List.setIfInBounds_toArray, List.set_cons_zero, List.set_cons_succ]
                      refine wpAnyH_take (i := 20) (oi := { dst := some 169, op := Op.load 41 (Operand.tmp 168), type := 41, pos := "law.go:188", after := #[{ on := 19, ground := Ground.data }, { on := 16, ground := Ground.guard }], guard := some (16, false) }) (v := undef) rfl (by kernel_rfl) (by kernel_rfl) (by kernel_rfl) (fun _ _ _ h => h) (Or.inr ⟨by rfl, rfl⟩) hk ?_
                      simp only [Act.put, List.setIfInBounds_toArray, List.set_cons_zero, List.set_cons_succ]
                      refine wpAnyH_take (i := 21) (oi := { dst := some 170, op := Op.call { callee := Callee.builtin Builtin.len, args := #[Operand.tmp 169], argTypes := #[41] }, type := 3, pos := "law.go:188", after := #[{ on := 20, ground := Ground.data }, { on := 16, ground := Ground.guard }], guard := some (16, false) }) (v := undef) rfl (by kernel_rfl) (by kernel_rfl) (by kernel_rfl) (fun _ _ _ h => h) (Or.inr ⟨by rfl, rfl⟩) hk ?_
                      simp only [Act.put, List.setIfInBounds_toArray, List.set_cons_zero, List.set_cons_succ]
                      refine wpAnyH_take (i := 22) (oi := { dst := some 171, op := Op.binOp BinOp.sub 3 (Operand.tmp 170) (Operand.const (Value.int IntKind.i64 1)) 3, type := 3, pos := "law.go:188", after := #[{ on := 21, ground := Ground.data }, { on := 16, ground := Ground.guard }], guard := some (16, false) }) (v := undef) rfl (by kernel_rfl) (by kernel_rfl) (by kernel_rfl) (fun _ _ _ h => h) (Or.inr ⟨by rfl, rfl⟩) hk ?_
                      simp only [Act.put, List.setIfInBounds_toArray, List.set_cons_zero, List.set_cons_succ]
                      refine wpAnyH_take (i := 23) (oi := { dst := some 172, op := Op.binOp BinOp.eql 3 (Operand.tmp 166) (Operand.tmp 171) 3, type := 4, pos := "law.go:188", after := #[{ on := 17, ground := Ground.data }, { on := 22, ground := Ground.data }, { on := 16, ground := Ground.guard }], guard := some (16, false) }) (v := undef) rfl (by kernel_rfl) (by kernel_rfl) (by kernel_rfl) (fun _ _ _ h => h) (Or.inr ⟨by rfl, rfl⟩) hk ?_
                      simp only [Act.put, List.setIfInBounds_toArray, List.set_cons_zero, List.set_cons_succ]
                      refine wpAnyH_take (i := 24) (oi := { dst := some 173, op := Op.pick (Operand.tmp 165) (Operand.const (Value.bool true)) (Operand.tmp 172), type := 4, pos := "law.go:188", after := #[{ on := 16, ground := Ground.data }, { on := 23, ground := Ground.data }, { on := 13, ground := Ground.guard }], guard := some (13, true) }) (v := undef) rfl (by kernel_rfl) (by kernel_rfl) (by kernel_rfl) (fun _ _ _ h => h) (Or.inr ⟨by rfl, rfl⟩) hk ?_
                      simp only [Act.put, List.setIfInBounds_toArray, List.set_cons_zero, List.set_cons_succ]
                      refine wpAnyH_take (i := 25) (oi := { dst := some 174, op := Op.pick (Operand.tmp 162) (Operand.tmp 173) (Operand.const (Value.bool false)), type := 4, pos := "law.go:188", after := #[{ on := 13, ground := Ground.data }, { on := 24, ground := Ground.data }, { on := 1, ground := Ground.guard }], guard := some (1, false) }) (v := ?vdte33b14) rfl (by kernel_rfl) (by kernel_rfl) (by kernel_rfl) (fun _ _ _ h => h) (Or.inl ⟨by rfl, ?ydte33b14⟩) hk ?rdte33b14
                      case ydte33b14 => (intro w hSw; (try dsimp only at hSw); go_simp; first | done | with_reducible rfl)
                      simp only [Act.put, List.setIfInBounds_toArray, List.set_cons_zero, List.set_cons_succ]
                      refine wpAnyH_take (i := 26) (oi := { dst := some 175, op := Op.pick (Operand.tmp 150) (Operand.const (Value.bool true)) (Operand.tmp 174), type := 4, pos := "law.go:188", after := #[{ on := 1, ground := Ground.data }, { on := 25, ground := Ground.data }], guard := none }) (v := ?vdte33b15) rfl (by kernel_rfl) (by kernel_rfl) (by kernel_rfl) (fun _ _ _ h => h) (Or.inl ⟨by rfl, ?ydte33b15⟩) hk ?rdte33b15
                      case ydte33b15 => (intro w hSw; (try dsimp only at hSw); go_simp; first | done | with_reducible rfl)
                      simp only [Act.put, List.setIfInBounds_toArray, List.set_cons_zero, List.set_cons_succ]
                      refine wpAnyH_take (i := 27) (oi := { dst := some 18, op := Op.assign (Operand.tmp 175), type := 4, pos := "law.go:188", after := #[{ on := 26, ground := Ground.data }, { on := 16, ground := Ground.chain }, { on := 0, ground := Ground.phase }, { on := 1, ground := Ground.phase }, { on := 2, ground := Ground.phase }, { on := 3, ground := Ground.phase }, { on := 4, ground := Ground.phase }, { on := 5, ground := Ground.phase }, { on := 6, ground := Ground.phase }, { on := 7, ground := Ground.phase }, { on := 8, ground := Ground.phase }, { on := 9, ground := Ground.phase }, { on := 10, ground := Ground.phase }, { on := 11, ground := Ground.phase }, { on := 12, ground := Ground.phase }, { on := 13, ground := Ground.phase }, { on := 14, ground := Ground.phase }, { on := 15, ground := Ground.phase }, { on := 16, ground := Ground.phase }, { on := 17, ground := Ground.phase }, { on := 18, ground := Ground.phase }, { on := 19, ground := Ground.phase }, { on := 20, ground := Ground.phase }, { on := 21, ground := Ground.phase }, { on := 22, ground := Ground.phase }, { on := 23, ground := Ground.phase }, { on := 24, ground := Ground.phase }, { on := 25, ground := Ground.phase }, { on := 26, ground := Ground.phase }], guard := none }) (v := ?vdte33b16) rfl (by kernel_rfl) (by kernel_rfl) (by kernel_rfl) (fun _ _ _ h => h) (Or.inl ⟨by rfl, ?ydte33b16⟩) hk ?rdte33b16
                      case ydte33b16 => (intro w hSw; (try dsimp only at hSw); go_simp; first | done | with_reducible rfl)
                      simp only [Act.put, List.setIfInBounds_toArray, List.set_cons_zero, List.set_cons_succ]
                      refine wpAnyH_done (by decide +kernel) ?_ _
                      obtain ⟨q9, hq9⟩ := hk.2.2.2.2.2.out
                      clear hk
                      go_wp2
                      go_roundw
                      case rel => exact ⟨t + 1, q9, by omega, by go_num, by rw [HNX.out]; rfl, by first | exact hq9 | rfl⟩
                      case measure => simp [intOf]; omega
                · obtain rfl : t = lv := by omega
                  have HYE : Bx (okB nw ws S fb t = true) := ⟨by rw [HLV.out]; exact HOKE.out⟩
                  have HW3 : Bx (wr = w11.drewN q3) := ⟨hwr3⟩
                  clear hwr3
                  rw [HYE.out]
                  go_wp2
                  go_roundw
                  case rel => exact ⟨p + 1, q3, by omega, by go_num, HW3.out⟩
                  case measure => simp [intOf]; omega
          · obtain rfl : p = 8 := by omega
            clear hwr
            go_wp2_with fail
            refine (lives_any _).mono ?_
            rintro e w12 ⟨rfl, hb12⟩
            go_wp2
            go_ret
            exact ⟨rfl, by
              rw [HQ.out] at hb12
              exact bstep (below_drewN HLO.out q) hb12⟩

set_option maxRecDepth 100000 in
theorem lifted (os : Os) (started : os.Started) (H : Type) (enc : TypeId × Value → H) :
    ReturnsInHanded {} Try.checked os 5 .any (Rows.diskTearsSpec.pre6 enc Try.prog Try.f5 Rows.diskTearsRow.domain false) (Rows.diskTearsSpec.post enc Try.prog Try.f5 false true false false) := by
  refine returnsInHanded_of_change (C := Try.checked) own started (by kernel_rfl) Try.func5
    (ChangeSpec.witness6 (enc := enc) (C := Try.checked) false ⟨#[], #[.slice none 0 0, .slice none 0 0, .slice none 0 0], []⟩ 8 (by kernel_rfl) (by kernel_rfl) (by kernel_rfl) (by kernel_rfl)) ?_
  intro W base args ds gs before hval0 hW hcnd _
  have hval : ∀ (j : Nat) t v, Try.f5.params[j]? = some t → args[j]? = some v → Value.okWide Try.prog W .any base t v := hval0
  have hW' := hW
  obtain ⟨p, q, hA0, hV, rfl, hfz, hnd⟩ := hW
  have hA : DataW.TrodAll enc Try.prog W 0 (fun _ => true) true Try.f5.params.toList args.toList ds p := hA0
  rw [Try.params5] at hA hval
  obtain ⟨v0, vs0, d0, ds0, p0, q0, hargs, rfl, rfl, h0, r0⟩ := trodAll_cons hA
  obtain ⟨v1, vs1, d1, ds1, p1, q1, rfl, rfl, rfl, h1, r1⟩ := trodAll_cons r0
  obtain ⟨v2, vs2, d2, ds2, p2, q2, rfl, rfl, rfl, h2, r2⟩ := trodAll_cons r1
  obtain ⟨rfl, rfl, rfl⟩ := trodAll_nil r2
  obtain rfl : args = #[v0, v1, v2] := by cases args; simp_all
  obtain ⟨rfl, rfl⟩ := trodVars_none hV
  obtain ⟨a0, len0, cap0, rfl⟩ := okWide_slice Try.underlying22 (hval 0 22 v0 rfl rfl)
  obtain ⟨a1, len1, cap1, rfl⟩ := okWide_slice Try.underlying22 (hval 1 22 v1 rfl rfl)
  obtain ⟨a2, len2, cap2, rfl⟩ := okWide_slice Try.underlying34 (hval 2 34 v2 rfl rfl)
  have k0 := h0
  have lt0 : ∀ x ∈ p0, x.block < W.heap.size := by obtain ⟨m, hm⟩ := k0; exact DataW.trod_lt m _ _ _ hm
  have k1 := h1
  have lt1 : ∀ x ∈ p1, x.block < W.heap.size := by obtain ⟨m, hm⟩ := k1; exact DataW.trod_lt m _ _ _ hm
  have k2 := h2
  have lt2 : ∀ x ∈ p2, x.block < W.heap.size := by obtain ⟨m, hm⟩ := k2; exact DataW.trod_lt m _ _ _ hm
  obtain ⟨L, hL⟩ := open_dos h0
  obtain ⟨M, hM⟩ := open_dos h1
  obtain ⟨K, hK⟩ := open_bls h2
  clear hA0 hval0
  refine (walk a0 len0 cap0 L a1 len1 cap1 M a2 len2 cap2 K W hL hM hK).mono fun e W' ⟨he, bel⟩ => ?_
  subst he
  exact ⟨_, rfl, _, _, _, [], _, [], hW', trodAll_mk1 (shut_bool Try.underlying4 _), (trodAll_cons_mk (Below.trod laidOut (by kernel_rfl) (of_decide_eq_true (by kernel_rfl)) k0 bel lt0) (trodAll_cons_mk (Below.trod laidOut (by kernel_rfl) (of_decide_eq_true (by kernel_rfl)) k1 bel lt1) (trodAll_cons_mk (Below.trod laidOut (by kernel_rfl) (of_decide_eq_true (by kernel_rfl)) k2 bel lt2) trodAll_mk0))), rfl, bel.frame _, fun h => by cases h⟩

theorem over : Rows.diskTearsRow.holds Try.pinned (OpenSpec.ofChange Rows.diskTearsSpec) :=
  OpenClaim.holds_of_wide 5 Try.f5 rfl rfl rfl rfl rfl rfl rfl ⟨rfl, rfl, rfl, rfl, rfl⟩ rfl rfl rfl rfl rfl (by kernel_rfl) Try.func5 (by kernel_rfl)
    (of_decide_eq_true (by kernel_rfl)) (by unfold Func.isWrapper; first | (rw [if_pos (by decide +kernel)]; kernel_rfl) | (rw [if_neg (by decide +kernel)]; exact ⟨rfl, rfl⟩))
    (fun os started H enc _ => lifted os started H enc)

/-- the statement -/
theorem proved : Rows.DiskTearsSaid := over
end Go.Proofs.Ytihmfnndnjhpbaa.diskTears
namespace Go.Proofs.Ytihmfnndnjhpbaa
theorem diskTears_holds : Rows.DiskTearsSaid := diskTears.proved
#print axioms diskTears_holds
end Go.Proofs.Ytihmfnndnjhpbaa
