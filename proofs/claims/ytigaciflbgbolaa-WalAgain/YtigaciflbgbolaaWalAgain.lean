/- For every int and every list of calls the law WalAgain returns true and the list reads as it did (P10.3, P10.4): what goes in is what Room says, and a log that is opened again is the same, nothing written. No condition. -/
import Derived.Test.YtigaciflbgbolaaRows
import Derived.Test.YtigaciflbgbolaaLaw10c
import Derived.Test.YtigaciflbgbolaaCut
import Derived.WalkKit
import Derived.ProofKit
import Derived.OpenShut
import Derived.ShutString
import Derived.ChangeOld
import Derived.Below
namespace Go.Proofs.Ytigaciflbgbolaa.walAgain
open Go.ChangeShapes Go.WideShapes Go.ChangeAt Go.RowKit
open Go.ChangeMaps (open_string shut_string)
set_option linter.unusedVariables false

theorem own : ownKnob Try.prog.godebug = none := by kernel_rfl
theorem laidOut : laidOutB Try.prog = true := by kernel_rfl

theorem step_ok {s : DS} {T : List (List Int)} {b : List Int} {n : Nat} (h : Rest s T) (hb : Byt b) (ha : s.armed = false) (hn : s.F.length = n) : ∃ s' T' L' E, apS s (lgs T) b = s' ∧ apL s (lgs T) b = L' ∧ L' = lgs T' ∧ apE s (lgs T) b = E ∧ Rest s' T' ∧ s'.armed = false ∧ s'.F.length = n ∧ (FrS 0 T').length ≤ n ∧ roomV n (lgs T').next ≤ roomV n (lgs T).next ∧
    ((E = 0 ∧ (b.length : Int) ≤ roomV n (lgs T).next) ∨ ((E = 5 ∨ E = 11) ∧ ¬ (b.length : Int) ≤ roomV n (lgs T).next ∧ T' = T)) := by
  obtain ⟨h1, h2, h3⟩ := ap_cases h hb
  have hnx := rest_next h
  rw [hn] at hnx h2
  rcases h3 with ⟨e1, e2, e3, e4, e5⟩ | ⟨_, e2, _⟩ | ⟨e1, e2, e3, e4⟩
  · have hnx2 := rest_next e2
    rw [h2] at hnx2
    rw [hn] at e5
    refine ⟨_, T ++ [b], _, 0, rfl, rfl, e3, e1, e2, h1 ha, h2, hnx2, room_mono ?_ hnx2, .inl ⟨rfl, (room_iff hnx).1 ⟨e4, e5⟩⟩⟩
    show (FrS 0 T).length ≤ (FrS 0 (T ++ [b])).length
    rw [FrS_snoc, List.length_append]; omega
  · rw [ha] at e2; cases e2
  · rw [e2, e3]
    refine ⟨s, T, _, apE s (lgs T) b, rfl, rfl, rfl, rfl, h, ha, hn, hnx, Int.le_refl _, .inr ⟨e1, fun hh => ?_, rfl⟩⟩
    obtain ⟨k1, k2⟩ := (room_iff (next := (FrS 0 T).length) hnx).2 hh
    rw [hn] at e4
    omega

set_option maxRecDepth 100000 in
set_option maxHeartbeats 1000000 in
theorem walk (x : Int) (a1 : Option Addr) (len1 cap1 : Nat) (L : List DoM) (w : World) (hx : I64 x) (hL : Dos w a1 len1 cap1 L) :
    Calls Try.prog 5 #[.int .i64 x, .slice a1 len1 cap1] w fun e w' => e = .returned (.bool true) ∧ Below w.heap.size w w' := by
  obtain ⟨n, hn⟩ : ∃ n : Nat, leastV x 1 300 = (n : Int) := ⟨(leastV x 1 300).toNat, by have := least_bd x 1 300 (by decide); omega⟩
  have hnb : 1 ≤ n ∧ n ≤ 300 := by have := least_bd x 1 300 (by decide); omega
  have HNN : Bx (leastV x 1 300 = (n : Int)) := ⟨hn⟩
  clear hn
  have HL : Bx (Dos w a1 len1 cap1 L) := ⟨hL⟩
  clear hL hx
  go_enter Try.func5, Try.ntmps5
  go_wp2_with fail
  refine (least_any _ _ _ _).mono ?_
  rintro e w' ⟨rfl, rfl⟩
  rw [HNN.out]
  go_wp2_with fail
  refine (dd_new w _ n (Below.refl _ _) (by omega) (by omega)).mono ?_
  rintro e w1 ⟨gd, rfl, hD1, hb1⟩
  have HRN := rest_new n
  have hF : (dnew n).F.length = n := by simp [dnew]
  have hrd := HRN.rd hD1.ok
  obtain ⟨q1, q2⟩ := wip_rest HRN
  have hOO : (dnew n).O.length ≤ 900000 := by simp [dnew]
  go_wp2_with fail
  refine (dd_open w _ _ gd (dnew n) [] hD1 rfl hOO hrd q1).mono ?_
  rintro e w2 ⟨gl, rfl, hDL2, _⟩
  rw [q2] at hDL2
  have HDL2 : Bx _ := ⟨hDL2⟩
  have HRB : Bx (Rest (dnew n) [] ∧ (dnew n).armed = false ∧ (dnew n).F.length = n ∧ (FrS 0 ([] : List (List Int))).length ≤ n) := ⟨HRN, rfl, hF, Nat.zero_le _⟩
  clear hDL2 q1 q2 hrd HRN hF hOO hD1 hb1
  generalize dnew n = s0' at HDL2 HRB
  go_wp2_with fail
  refine (few_any a1 len1 cap1 L w _ HL.out HDL2.out.low).mono ?_
  rintro e w3 ⟨⟨m, rfl, hm40, M, hM⟩, hb3⟩
  have HM : Bx _ := ⟨hM⟩
  have hmc := hM.le_cap
  have hmx := hM.cap_le
  unfold maxLen at hmx
  have HD3 : Bx _ := ⟨HDL2.out.step hb3⟩
  clear hM hb3 HDL2 HL
  go_wp2
  go_loopw [9] (fun i wr => ∃ (k : Nat) (s : DS) (T : List (List Int)), k ≤ m ∧ i = .int .i64 (k : Int) ∧ Bx (Rest s T ∧ s.armed = false ∧ s.F.length = n ∧ (FrS 0 T).length ≤ n) ∧ Bx (DL w wr (fun _ => False) gd gl s (lgs T))) (fun i _ => m - (intOf i).toNat)
  case atStart => exact ⟨0, s0', [], Nat.zero_le _, rfl, HRB, HD3⟩
  case round =>
    clear HRB HD3
    obtain ⟨k, s, T, hk, rfl, HR, HD⟩ := hrel
    by_cases hlt : k < m
    · have hkI : (k : Int) < (m : Int) := by omega
      obtain ⟨b, off, a2, l2, c2, a3, l3, c3, rfl, z0, z1, z2, z3, z4, hdv, hbw⟩ := HM.out.at HD.out.low k hlt
      have HDV : Bx _ := ⟨hdv⟩
      have HBW : Bx _ := ⟨hbw⟩
      generalize M.getD k doZ = d at z0 z1 z2 HDV
      have HZ : Bx (∀ W, Below w.heap.size w W → W.cell? ⟨b, off + k * 5, none⟩ = some (.int .i64 d.kind) ∧ W.cell? ⟨b, off + k * 5 + 1, none⟩ = some (.int .i64 d.n) ∧ W.cell? ⟨b, off + k * 5 + 2, none⟩ = some (.int .i64 d.long) ∧ W.cell? ⟨b, off + k * 5 + 3, none⟩ = some (.slice a2 l2 c2) ∧ W.cell? ⟨b, off + k * 5 + 4, none⟩ = some (.slice a3 l3 c3)) := ⟨fun W hW => by
        have hlw := HD.out.low
        have e : ∀ j, W.cell? ⟨b, j, none⟩ = wr.cell? ⟨b, j, none⟩ := fun j => (hW.cell hbw).trans (hlw.cell hbw).symm
        exact ⟨(e _).trans z0, (e _).trans z1, (e _).trans z2, (e _).trans z3, (e _).trans z4⟩⟩
      clear hdv hbw z0 z1 z2 z3 z4
      have HNX : Bx ((lgs T).next ≤ s.F.length) := ⟨by rw [HR.out.2.2.1]; exact HR.out.2.2.2⟩
      go_wp2_with fail
      refine (dl_room w _ _ gd gl s (lgs T) HD.out HNX.out).mono ?_
      rintro e w4 ⟨rfl, hb4⟩
      rw [HR.out.2.2.1]
      have HD4 : Bx _ := ⟨HD.out.step hb4⟩
      clear hb4 HD
      go_wp2_with fail
      refine (dl_next w _ _ gd gl s (lgs T) HD4.out).mono ?_
      rintro e w' ⟨rfl, rfl⟩
      go_wp2_with fail
      refine (dl_texts w _ _ gd gl s (lgs T) HD4.out).mono ?_
      rintro e w5 ⟨v5, rfl, hT5, hb5⟩
      obtain ⟨a5, c5, rfl, _⟩ := hT5.form
      have HD5 : Bx _ := ⟨HD4.out.step hb5⟩
      clear hT5 hb5 HD4
      obtain ⟨z0, z1, z2, z3, z4⟩ := HZ.out _ HD5.out.low
      have hdv5 := HDV.out.below HD5.out.low
      go_wp2_with fail
      refine (text_any d a2 l2 c2 a3 l3 c3 _ hdv5).mono ?_
      rintro e w6 ⟨v6, rfl, hown6, hb6⟩
      have hby := txt_byt HDV.out.b.byt
      obtain ⟨a6, c6, rfl, hm6⟩ := Bts.of_owns hown6 hby
      have HF6 : Bx (0 < (txt d).length → ∀ p, a6 = some p → w5.heap.size ≤ p.block) := ⟨fun _ p e => (own_ge hown6 p e).1⟩
      obtain ⟨s', T', L', E, es, el, et, ee, hrest, harm, hlen, hnxt, hroom, hcase⟩ := step_ok HR.out.1 hby HR.out.2.1 HR.out.2.2.1
      have HOO : Bx (s.O.length ≤ 900000) := ⟨by rw [HR.out.1.o]; exact Nat.zero_le _⟩
      clear z0 z1 z2 z3 z4 hdv5 hown6
      go_wp2_with fail
      refine (dl_append w w5 _ _ gd gl s (lgs T) a6 _ c6 (txt d) HD5.out hb6 hm6 HF6.out HOO.out).mono ?_
      rintro e w7 ⟨rfl, hD7, _⟩
      rw [es, el, et] at hD7
      rw [ee]
      have HD7 : Bx _ := ⟨hD7⟩
      have HR7 : Bx (Rest s' T' ∧ s'.armed = false ∧ s'.F.length = n ∧ (FrS 0 T').length ≤ n) := ⟨hrest, harm, hlen, hnxt⟩
      have HNX7 : Bx ((lgs T').next ≤ s'.F.length) := ⟨by rw [hlen]; exact hnxt⟩
      obtain ⟨z0, z1, z2, z3, z4⟩ := HZ.out _ HD7.out.low
      have hdv7 := HDV.out.below HD7.out.low
      clear hD7 hm6 hb6 HF6 es el et ee hrest harm hlen hnxt HOO hby HD5 HNX HR
      obtain ⟨tl, HTL⟩ : ∃ tl, Bx (tl = (txt d).length) := ⟨_, ⟨rfl⟩⟩
      rw [← HTL.out] at hcase ⊢
      generalize roomV n (lgs T).next = R at hroom hcase ⊢
      have HHR : Bx _ := ⟨hroom⟩
      have HCS : Bx _ := ⟨hcase⟩
      clear hroom
      go_wp2_with fail
      refine (text_any d a2 l2 c2 a3 l3 c3 _ hdv7).mono ?_
      rintro e w8 ⟨v8, rfl, hown8, hb8⟩
      obtain ⟨a8, c8, rfl⟩ := opn_form hown8
      rw [← HTL.out]
      have HD8 : Bx _ := ⟨HD7.out.step hb8⟩
      clear hown8 hb8 HD7 z0 z1 z2 z3 z4 hdv7
      rcases hcase with ⟨hE, hle⟩ | ⟨hE, hle, hT⟩
      · subst hE
        have g1 : decide ((tl : Int) ≤ R) = true := decide_eq_true hle
        clear hle
        go_wp2_with fail
        refine (dl_room w _ _ gd gl s' (lgs T') HD8.out HNX7.out).mono ?_
        rintro e w9 ⟨rfl, hb9⟩
        rw [HR7.out.2.2.1]
        have HD9 : Bx _ := ⟨HD8.out.step hb9⟩
        have g2 : decide (R < roomV n (lgs T').next) = false := decide_eq_false (by have := HHR.out; omega)
        generalize roomV n (lgs T').next = R2 at g2 ⊢
        clear hb9 HHR HCS
        go_wp2
        go_roundw
        case rel => exact ⟨k + 1, s', T', by omega, by go_num, HR7, HD9⟩
        case measure => simp [intOf]; omega
      · subst hT
        have g1 : decide ((tl : Int) ≤ R) = false := decide_eq_false (by omega)
        have g2 : decide (R < roomV n (lgs T').next) = false := decide_eq_false (by have := HHR.out; omega)
        have HG2 : Bx _ := ⟨g2⟩
        clear hle HCS g2
        rcases hE with rfl | rfl
        · skip
          go_wp2_with fail
          refine (dl_room w _ _ gd gl s' (lgs T') HD8.out HNX7.out).mono ?_
          rintro e w9 ⟨rfl, hb9⟩
          rw [HR7.out.2.2.1]
          have HD9 : Bx _ := ⟨HD8.out.step hb9⟩
          have g2 := HG2.out
          generalize roomV n (lgs T').next = R2 at g2 ⊢
          clear hb9 HHR HD8 HG2
          go_wp2_with fail
          refine (dl_next w _ _ gd gl s' (lgs T') HD9.out).mono ?_
          rintro e w' ⟨rfl, rfl⟩
          go_wp2_with fail
          refine (dl_texts w _ _ gd gl s' (lgs T') HD9.out).mono ?_
          rintro e w10 ⟨v10, rfl, hT10, hb10⟩
          obtain ⟨a10, c10, rfl, _⟩ := hT10.form
          have HD10 : Bx _ := ⟨HD9.out.step hb10⟩
          clear hT10 hb10 HD9
          go_wp2
          go_roundw
          case rel => exact ⟨k + 1, s', T', by omega, by go_num, HR7, HD10⟩
          case measure => simp [intOf]; omega
        · skip
          go_wp2_with fail
          refine (dl_room w _ _ gd gl s' (lgs T') HD8.out HNX7.out).mono ?_
          rintro e w9 ⟨rfl, hb9⟩
          rw [HR7.out.2.2.1]
          have HD9 : Bx _ := ⟨HD8.out.step hb9⟩
          have g2 := HG2.out
          generalize roomV n (lgs T').next = R2 at g2 ⊢
          clear hb9 HHR HD8 HG2
          go_wp2_with fail
          refine (dl_next w _ _ gd gl s' (lgs T') HD9.out).mono ?_
          rintro e w' ⟨rfl, rfl⟩
          go_wp2_with fail
          refine (dl_texts w _ _ gd gl s' (lgs T') HD9.out).mono ?_
          rintro e w10 ⟨v10, rfl, hT10, hb10⟩
          obtain ⟨a10, c10, rfl, _⟩ := hT10.form
          have HD10 : Bx _ := ⟨HD9.out.step hb10⟩
          clear hT10 hb10 HD9
          go_wp2
          go_roundw
          case rel => exact ⟨k + 1, s', T', by omega, by go_num, HR7, HD10⟩
          case measure => simp [intOf]; omega
    · have hkm : ¬ (k : Int) < (m : Int) := by omega
      clear HM hlt
      go_wp2_with fail
      refine (dl_arm w _ _ gd gl s (lgs T) 0 HD.out (by decide)).mono ?_
      rintro e w4 ⟨rfl, hD4, _⟩
      have hR4 := HR.out.1.ar 0
      generalize s.arE 0 = E4
      have hF4 : (s.ar 0).F = s.F := by
        unfold DS.ar
        split
        · rfl
        · split <;> rfl
      have HR4 : Bx (Rest (s.ar 0) T ∧ (lgs T).next ≤ (s.ar 0).F.length) := ⟨hR4, by rw [hF4, HR.out.2.2.1]; exact HR.out.2.2.2⟩
      have HD4 : Bx _ := ⟨hD4⟩
      clear hR4 hF4 hD4 HD HR
      generalize s.ar 0 = s4 at HR4 HD4
      go_wp2_with fail
      refine (dl_open2 w _ _ gd gl s4 T HD4.out HR4.out.1).mono ?_
      rintro e w5 ⟨gq, rfl, hP5, hQ5, _⟩
      have HP5 : Bx _ := ⟨hP5⟩
      have HQ5 : Bx _ := ⟨hQ5⟩
      clear hP5 hQ5 HD4
      go_wp2_with fail
      refine (dd_off w _ _ gd s4 HP5.out.dd).mono ?_
      rintro e w' ⟨rfl, rfl⟩
      rw [HR4.out.1.off]
      go_wp2_with fail
      refine (dl_texts w _ _ gd gl s4 (lgs T) HP5.out).mono ?_
      rintro e w6 ⟨v6, rfl, hT6, hb6⟩
      have HP6 : Bx _ := ⟨HP5.out.step hb6⟩
      have HQ6 : Bx _ := ⟨HQ5.out.step hb6⟩
      have HT6 : Bx _ := ⟨hT6⟩
      clear hT6 hb6 HP5 HQ5
      go_wp2_with fail
      refine (dl_texts w _ _ gd gq s4 (lgs T) HQ6.out).mono ?_
      rintro e w7 ⟨v7, rfl, hT7, hb7⟩
      have hT6' := HT6.out.below hb7
      obtain ⟨a6, c6, rfl, hx6⟩ := hT6'.txs
      obtain ⟨a7, c7, rfl, hx7⟩ := hT7.txs
      have HX6 : Bx _ := ⟨hx6⟩
      have HX7 : Bx _ := ⟨hx7⟩
      have HP7 : Bx _ := ⟨HP6.out.step hb7⟩
      have HQ7 : Bx _ := ⟨HQ6.out.step hb7⟩
      clear hT6' hT7 hb7 hx6 hx7 HP6 HQ6 HT6
      go_wp2_with fail
      refine (tsame_yes a6 a7 _ c6 c7 _ _ HX6.out HX7.out).mono ?_
      rintro e w8 ⟨rfl, q8, hq8⟩
      have HP8 : Bx (DL w w8 (fun _ => False) gd gl s4 (lgs T)) := ⟨by rw [hq8]; exact HP7.out.drewN q8⟩
      have HQ8 : Bx (DL w w8 (fun _ => False) gd gq s4 (lgs T)) := ⟨by rw [hq8]; exact HQ7.out.drewN q8⟩
      clear hq8 HP7 HQ7 HX6 HX7
      go_wp2_with fail
      refine (dl_next w _ _ gd gl s4 (lgs T) HP8.out).mono ?_
      rintro e w' ⟨rfl, rfl⟩
      go_wp2_with fail
      refine (dl_next w _ _ gd gq s4 (lgs T) HQ8.out).mono ?_
      rintro e w' ⟨rfl, rfl⟩
      go_wp2_with fail
      refine (dl_room w _ _ gd gl s4 (lgs T) HP8.out HR4.out.2).mono ?_
      rintro e w9 ⟨rfl, hb9⟩
      have HQ9 : Bx _ := ⟨HQ8.out.step hb9⟩
      clear hb9 HP8 HQ8
      go_wp2_with fail
      refine (dl_room w _ _ gd gq s4 (lgs T) HQ9.out HR4.out.2).mono ?_
      rintro e w10 ⟨rfl, hb10⟩
      have HQ10 : Bx _ := ⟨HQ9.out.step hb10⟩
      clear hb10 HQ9
      generalize roomV s4.F.length (lgs T).next = R9
      go_wp2_with fail
      refine (lives_any _).mono ?_
      rintro e w11 ⟨rfl, hb11⟩
      have HLW : Bx (Below w.heap.size w w11) := ⟨bstep HQ10.out.low hb11⟩
      clear hb11 HQ10
      go_wp2
      go_ret
      exact ⟨rfl, HLW.out⟩

set_option maxRecDepth 100000 in
theorem lifted (os : Os) (started : os.Started) (H : Type) (enc : TypeId × Value → H) :
    ReturnsInHanded {} Try.checked os 5 .any (Rows.walAgainSpec.pre6 enc Try.prog Try.f5 Rows.walAgainRow.domain false) (Rows.walAgainSpec.post enc Try.prog Try.f5 false true false false) := by
  refine returnsInHanded_of_change (C := Try.checked) own started (by kernel_rfl) Try.func5
    (ChangeSpec.witness6 (enc := enc) (C := Try.checked) false ⟨#[], #[.int .i64 0, .slice none 0 0], []⟩ 8 (by kernel_rfl) (by kernel_rfl) (by kernel_rfl) (by kernel_rfl)) ?_
  intro W base args ds gs before hval0 hW hcnd _
  have hval : ∀ (j : Nat) t v, Try.f5.params[j]? = some t → args[j]? = some v → Value.okWide Try.prog W .any base t v := hval0
  have hW' := hW
  obtain ⟨p, q, hA0, hV, rfl, hfz, hnd⟩ := hW
  have hA : DataW.TrodAll enc Try.prog W 0 (fun _ => true) true Try.f5.params.toList args.toList ds p := hA0
  rw [Try.params5] at hA hval
  obtain ⟨v0, vs0, d0, ds0, p0, q0, hargs, rfl, rfl, h0, r0⟩ := trodAll_cons hA
  obtain ⟨v1, vs1, d1, ds1, p1, q1, rfl, rfl, rfl, h1, r1⟩ := trodAll_cons r0
  obtain ⟨rfl, rfl, rfl⟩ := trodAll_nil r1
  obtain rfl : args = #[v0, v1] := by cases args; simp_all
  obtain ⟨rfl, rfl⟩ := trodVars_none hV
  obtain ⟨a1, len1, cap1, rfl⟩ := okWide_slice Try.underlying22 (hval 1 22 v1 rfl rfl)
  have k0 := h0
  have lt0 : ∀ x ∈ p0, x.block < W.heap.size := by obtain ⟨m, hm⟩ := k0; exact DataW.trod_lt m _ _ _ hm
  have k1 := h1
  have lt1 : ∀ x ∈ p1, x.block < W.heap.size := by obtain ⟨m, hm⟩ := k1; exact DataW.trod_lt m _ _ _ hm
  obtain ⟨x, rfl, hx⟩ := open_i64 (hval 0 3 v0 rfl rfl) h0
  obtain ⟨L, hL⟩ := open_dos h1
  clear hA0 hval0
  refine (walk x a1 len1 cap1 L W hx hL).mono fun e W' ⟨he, bel⟩ => ?_
  subst he
  exact ⟨_, rfl, _, _, _, [], _, [], hW', trodAll_mk1 (shut_bool Try.underlying4 _), (trodAll_cons_mk (Below.trod laidOut (by kernel_rfl) (of_decide_eq_true (by kernel_rfl)) k0 bel lt0) (trodAll_cons_mk (Below.trod laidOut (by kernel_rfl) (of_decide_eq_true (by kernel_rfl)) k1 bel lt1) trodAll_mk0)), rfl, bel.frame _, fun h => by cases h⟩

theorem over : Rows.walAgainRow.holds Try.pinned (OpenSpec.ofChange Rows.walAgainSpec) :=
  OpenClaim.holds_of_wide 5 Try.f5 rfl rfl rfl rfl rfl rfl rfl ⟨rfl, rfl, rfl, rfl, rfl⟩ rfl rfl rfl rfl rfl (by kernel_rfl) Try.func5 (by kernel_rfl)
    (of_decide_eq_true (by kernel_rfl)) (by unfold Func.isWrapper; first | (rw [if_pos (by decide +kernel)]; kernel_rfl) | (rw [if_neg (by decide +kernel)]; exact ⟨rfl, rfl⟩))
    (fun os started H enc _ => lifted os started H enc)

/-- the statement -/
theorem proved : Rows.WalAgainSaid := over
end Go.Proofs.Ytigaciflbgbolaa.walAgain
namespace Go.Proofs.Ytigaciflbgbolaa
theorem walAgain_holds : Rows.WalAgainSaid := walAgain.proved
#print axioms walAgain_holds
end Go.Proofs.Ytigaciflbgbolaa
