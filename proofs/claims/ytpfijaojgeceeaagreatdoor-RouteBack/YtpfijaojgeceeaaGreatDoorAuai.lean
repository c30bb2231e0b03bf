/- What the library answers here; letters, digits, names and targets. Methods, targets, names of lines. Targets. -/
import Derived.Test.YtpfijaojgeceeaaGreatDoorWShelf
import Derived.Test.YtpfijaojgeceeaaGreatDoorWireCode
import Derived.Test.YtpfijaojgeceeaaGreatDoorAuao
import Derived.Test.YtpfijaojgeceeaaGreatDoorReadAny
import Derived.Test.YtpfijaojgeceeaaGreatDoorAuam
import Derived.Shelf.RegionOpen
namespace Go.Proofs.YtpfijaojgeceeaaGreatDoor
open Go.RowKit
set_option linter.unusedVariables false

/-- what the library's variables hold, whatever is written above a block -/
structure Env (B : Nat) (w : World) : Prop where
  all : ∀ w', Below B w w' → Tens w' ∧ Errs w' ∧ ∃ m : Int, w'.cell? ⟨1, 0, none⟩ = some (.int .i64 m)
set_option maxRecDepth 100000 in
theorem Env.tens {B : Nat} {w : World} (h : Env B w) : Tens w := (h.all w (Below.refl _ _)).1
set_option maxRecDepth 100000 in
theorem Env.errs {B : Nat} {w : World} (h : Env B w) : Errs w := (h.all w (Below.refl _ _)).2.1
set_option maxRecDepth 100000 in
theorem Env.mx {B : Nat} {w : World} (h : Env B w) : ∃ m : Int, w.cell? ⟨1, 0, none⟩ = some (.int .i64 m) := (h.all w (Below.refl _ _)).2.2
set_option maxRecDepth 100000 in
theorem Env.below {B : Nat} {w w' : World} (h : Env B w) (hb : Below B w w') : Env B w' := ⟨fun w2 h2 => h.all w2 (hb.trans h2)⟩
set_option maxRecDepth 100000 in
theorem Env.kept {B : Nat} {own : Nat → Prop} {w w' : World} (h : Env B w) (hk : Kept own w w') (hB : ∀ k, own k → B ≤ k) (hs : B ≤ w.heap.size) : Env B w' := h.below (hk.low hB hs)
set_option maxRecDepth 100000 in
theorem Env.new {w : World} (ht : Tens w) (he : Errs w) (hm : ∃ m : Int, w.cell? ⟨1, 0, none⟩ = some (.int .i64 m)) : Env w.heap.size w := ⟨fun w' hb => ⟨ht.below hb, he.below hb, by
  obtain ⟨m, hm⟩ := hm
  exact ⟨m, (hb.cell (p := ⟨1, 0, none⟩) (World.block_lt_of_cell? w _ hm)).trans hm⟩⟩⟩
set_option maxRecDepth 100000 in
theorem Env.low {B B' : Nat} {w : World} (h : Env B w) (hb : B ≤ B') : Env B' w := ⟨fun w' h' => h.all w' (h'.mono hb)⟩

set_option maxRecDepth 100000 in
theorem sextra : Builder.Extra Tryz.prog Tryz.lays159_ren where
  sizeBuilder := by kernel_rfl
  liesBuilder := by kernel_rfl
  t5 := Tryz.lays159.t5
  a5 := Tryz.lays159.a5
  z5 := Tryz.lays159.z5
  v5 := Tryz.lays159.v5
  infoByte := by kernel_rfl
  cellsByte := by kernel_rfl
  sizeByte := by kernel_rfl
  neB5 := by decide
set_option maxRecDepth 100000 in
theorem lower_any (l : List Int) (w : World) (hl : ∀ c ∈ l, 0 ≤ c ∧ c < 128) (hs : l.length ≤ 1000000) :
    Calls Tryz.prog 70 #[.string (strOf l)] w fun e w' => e = .returned (.string (strOf (l.map lowB))) ∧ Below w.heap.size w w' := by
  refine (Any.strings_ToLower_ascii Tryz.lays159 sextra (strOf l) w (by rw [strOf_size]; omega) ?_).mono ?_
  · intro j b hb
    rw [strOf_data, List.getElem?_map] at hb
    cases hj : l[j]? with
    | none => rw [hj] at hb; cases hb
    | some c =>
      rw [hj] at hb
      have := hl c (List.mem_of_getElem? hj)
      simp only [Option.map_some, Option.some.injEq] at hb
      subst hb
      unfold u8I
      rw [UInt8.toNat_ofNat']
      omega
  · rintro e w' ⟨rfl, hb⟩
    refine ⟨?_, hb⟩
    rw [strOf_data, lower_map l (fun c hc => by have := hl c hc; omega), strOf_u8]
set_option maxRecDepth 100000 in
theorem cut_any2 (l : List Int) (w : World) (B : Nat) (he : Env B w) (hs : l.length ≤ 1000000) :
    Calls Tryz.prog 68 #[.string (strOf l), .string ⟨#[58, 32]⟩] w fun e w' => e = .returned (.tuple #[.string ⟨(Lib.cut (l.map u8I) [58, 32]).1.toArray⟩, .string ⟨(Lib.cut (l.map u8I) [58, 32]).2.1.toArray⟩, .bool (Lib.cut (l.map u8I) [58, 32]).2.2]) ∧ ∃ n, w' = w.drewN n := by
  obtain ⟨m, hm⟩ := he.mx
  exact Any.strings_Cut Tryz.lays145 (strOf l) ⟨#[58, 32]⟩ m w (by rw [strOf_size]; omega) hm
set_option maxRecDepth 100000 in
theorem prefix_any (l p : List Int) (w : World) (hl : Byt l) (hp : Byt p) :
    Calls Tryz.prog 85 #[.string (strOf l), .string (strOf p)] w fun e w' => e = .returned (.bool (decide (l.take p.length = p))) ∧ w' = w := by
  refine (Any.strings_HasPrefix Tryz.lays99 (strOf l) (strOf p) w).mono ?_
  rintro e w' ⟨rfl, hw⟩
  refine ⟨?_, hw⟩
  rw [strOf_data, strOf_data, Lib.hasPrefix, pre_link p l hp hl]
set_option maxRecDepth 100000 in
theorem cutpre_any (l p : List Int) (w : World) (hl : Byt l) (hp : Byt p) :
    Calls Tryz.prog 93 #[.string (strOf l), .string (strOf p)] w fun e w' => e = .returned (.tuple #[.string (if l.take p.length = p then strOf (l.drop p.length) else strOf l), .bool (decide (l.take p.length = p))]) ∧ w' = w := by
  refine (Any.strings_CutPrefix Tryz.lays103 (strOf l) (strOf p) w).mono ?_
  rintro e w' ⟨rfl, hw⟩
  refine ⟨?_, hw⟩
  rw [strOf_data, strOf_data, Lib.trimPrefix, Lib.hasPrefix, pre_link p l hp hl]
  by_cases h : l.take p.length = p
  · rw [if_pos (by simpa using h), if_pos h, List.length_map, ← List.map_drop, strOf_u8]
  · rw [if_neg (by simpa using h), if_neg h, strOf_u8]
def smB (c : Int) : Bool := decide (97 ≤ c) && decide (c ≤ 122)
def lgB (c : Int) : Bool := decide (65 ≤ c) && decide (c ≤ 90)
set_option maxHeartbeats 400000 in
theorem wsmall_any (c : Int) (w : World) : Calls Tryz.prog 86 #[.int .u8 c] w fun e w' => e = .returned (.bool (smB c)) ∧ w' = w := by
  go_enter Tryz.func86, Tryz.ntmps86
  go_wp2
  all_goals (go_ret; refine ⟨ret_bool ?_, rfl⟩; simp [smB]; omega)
set_option maxHeartbeats 400000 in
theorem wlarge_any (c : Int) (w : World) : Calls Tryz.prog 89 #[.int .u8 c] w fun e w' => e = .returned (.bool (lgB c)) ∧ w' = w := by
  go_enter Tryz.func89, Tryz.ntmps89
  go_wp2
  all_goals (go_ret; refine ⟨ret_bool ?_, rfl⟩; simp [lgB]; omega)
set_option maxHeartbeats 400000 in
theorem wdigit_any (c : Int) (w : World) : Calls Tryz.prog 87 #[.int .u8 c] w fun e w' => e = .returned (.bool (dig c)) ∧ w' = w := by
  go_enter Tryz.func87, Tryz.ntmps87
  go_wp2
  all_goals (go_ret; refine ⟨ret_bool ?_, rfl⟩; simp [dig]; omega)
end Go.Proofs.YtpfijaojgeceeaaGreatDoor
namespace Go.Proofs.YtpfijaojgeceeaaGreatDoor
open Go.RowKit
set_option linter.unusedVariables false

set_option maxRecDepth 100000 in
/-- a text's bytes, as places of it -/
theorem sbw_strOf {l : List Int} (hl : Byt l) (i : Nat) (hi : i < l.length) : sb (strOf l) i = l.getD i 0 := by
  have h := strL_getD (strOf l) i (by rw [strOf_size]; exact hi)
  rw [strL_strOf hl] at h
  rw [h]; rfl
set_option maxRecDepth 100000 in
theorem lit_eq {l : List Int} (hl : Byt l) (c : List Int) (hc : Byt c) (u : List UInt8) (hu : u = c.map u8I) : ((strOf l).toList == u) = decide (l = c) := by
  have e : (strOf l).toList = l.map u8I := by rw [Lib.toList_data]; rfl
  rw [e, hu]
  by_cases h : l = c
  · subst h; simp
  · have : ¬ l.map u8I = c.map u8I := fun e => h (strOf_inj hl hc (by unfold strOf; exact congrArg (fun x => (⟨x.toArray⟩ : ByteArray)) e))
    rw [decide_eq_false h]; exact beq_eq_false_iff_ne.2 this
def bytD (l : List Int) : Bool := l.all fun c => decide (0 ≤ c) && decide (c ≤ 255)
set_option maxRecDepth 100000 in
theorem byt_dec {l : List Int} (h : bytD l = true) : Byt l := fun c hc => by
  have := List.all_eq_true.1 h c hc
  simpa using this
def mthB (l : List Int) : Bool := decide (l = getM) || (decide (l = putM) || decide (l = postM))
set_option maxHeartbeats 400000 in
theorem wmethod_any (l : List Int) (w : World) (hl : Byt l) : Calls Tryz.prog 66 #[.string (strOf l)] w fun e w' => e = .returned (.bool (mthB l)) ∧ w' = w := by
  have e1 : ((strOf l).toList == [71, 69, 84]) = decide (l = getM) := lit_eq hl getM (byt_dec (by decide)) _ rfl
  have e2 : ((strOf l).toList == [80, 85, 84]) = decide (l = putM) := lit_eq hl putM (byt_dec (by decide)) _ rfl
  have e3 : ((strOf l).toList == [80, 79, 83, 84]) = decide (l = postM) := lit_eq hl postM (byt_dec (by decide)) _ rfl
  have HM : Bx (mthB l = (decide (l = getM) || (decide (l = putM) || decide (l = postM)))) := ⟨rfl⟩
  generalize mthB l = R at HM
  generalize decide (l = getM) = b1 at e1 HM
  generalize decide (l = putM) = b2 at e2 HM
  generalize decide (l = postM) = b3 at e3 HM
  clear hl
  generalize strOf l = s at e1 e2 e3
  cases b1 <;> cases b2 <;> cases b3
  all_goals (
    go_enter Tryz.func66, Tryz.ntmps66
    go_wp2
    go_ret
    exact ⟨by rw [HM.out]; rfl, rfl⟩)
set_option maxRecDepth 100000 in
/-- the state of a loop over a text's bytes -/
theorem all_step {p : Int → Bool} {l : List Int} {k : Nat} (h : ∀ j, j < k → p (l.getD j 0) = true) (hk : p (l.getD k 0) = true) : ∀ j, j < k + 1 → p (l.getD j 0) = true := fun j hj => by
  by_cases e : j = k
  · rw [e]; exact hk
  · exact h j (by omega)
set_option maxRecDepth 100000 in
theorem all_of_getD {p : Int → Bool} {l : List Int} (h : ∀ j, j < l.length → p (l.getD j 0) = true) : l.all p = true := by
  rw [List.all_eq_true]
  intro c hc
  obtain ⟨j, hj, rfl⟩ := List.mem_iff_getElem.1 hc
  have := h j hj
  rwa [List.getD_eq_getElem?_getD, List.getElem?_eq_getElem hj] at this
set_option maxRecDepth 100000 in
theorem not_all_of {p : Int → Bool} {l : List Int} {k : Nat} (hk : k < l.length) (h : p (l.getD k 0) = false) : l.all p = false := by
  rw [List.all_eq_false]
  refine ⟨l.getD k 0, ?_, by rw [h]; decide⟩
  rw [List.getD_eq_getElem?_getD, List.getElem?_eq_getElem hk]; exact List.getElem_mem _
set_option maxRecDepth 100000 in
theorem letB_eq (c : Int) : letB c = (smB c || (lgB c || decide (c = 45))) := by
  unfold letB smB lgB lowB
  by_cases h : 65 ≤ c ∧ c ≤ 90
  · rw [if_pos h]; simp [h.1, h.2]; omega
  · rw [if_neg h]
    by_cases h2 : c = 45
    · simp [h2]
    · simp only [h2, decide_false, Bool.false_or, Bool.or_false]
      have : (decide (65 ≤ c) && decide (c ≤ 90)) = false := by simp; omega
      rw [this, Bool.or_false]
set_option maxRecDepth 100000 in
set_option maxHeartbeats 1000000 in
theorem wname_any (l : List Int) (w : World) (hl : Byt l) (hs : l.length ≤ 1000000) : Calls Tryz.prog 69 #[.string (strOf l)] w fun e w' => e = .returned (.bool (nmB l)) ∧ w' = w := by
  have HL := Bx.mk hl
  have HSB : Bx (∀ i, i < l.length → sb (strOf l) i = l.getD i 0) := ⟨fun i hi => sbw_strOf hl i hi⟩
  have hsz0 : (strOf l).size = l.length := strOf_size l
  generalize hS : strOf l = s at hsz0 HSB
  have HZ := Bx.mk hsz0
  clear hS hl hsz0
  by_cases h0 : l.length < 1
  · have hz : (s.size : Int) < 1 := by have := HZ.out; omega
    have HN : Bx (nmB l = false) := ⟨by unfold nmB; simp; omega⟩
    clear h0
    go_enter Tryz.func69, Tryz.ntmps69
    go_wp2_with fail
    go_ret
    exact ⟨by rw [HN.out]; rfl, rfl⟩
  · by_cases h1 : 32 < l.length
    · have hz : ¬ (s.size : Int) < 1 := by have := HZ.out; omega
      have hz1 : (32 : Int) < (s.size : Int) := by have := HZ.out; omega
      have HN : Bx (nmB l = false) := ⟨by unfold nmB; simp; omega⟩
      clear h0 h1
      go_enter Tryz.func69, Tryz.ntmps69
      go_wp2_with fail
      go_ret
      exact ⟨by rw [HN.out]; rfl, rfl⟩
    · have hz : ¬ (s.size : Int) < 1 := by have := HZ.out; omega
      have hz1 : ¬ (32 : Int) < (s.size : Int) := by have := HZ.out; omega
      have HA : Bx (nmB l = l.all letB) := ⟨by unfold nmB; rw [decide_eq_true (by omega : 1 ≤ l.length), decide_eq_true (by omega : l.length ≤ 32)]; rfl⟩
      have hle : s.size ≤ 32 := by have := HZ.out; omega
      clear h0 h1
      go_enter Tryz.func69, Tryz.ntmps69
      go_wp2_with fail
      go_loopw [14] (fun i wr => ∃ (k : Nat), k ≤ s.size ∧ i = .int .i64 k ∧ wr = w ∧ Bx (∀ j, j < k → letB (l.getD j 0) = true)) (fun i _ => s.size - (intOf i).toNat)
      case atStart => exact ⟨0, Nat.zero_le _, rfl, rfl, ⟨fun j hj => by omega⟩⟩
      case round =>
        obtain ⟨k, hk, rfl, rfl, HJ⟩ := hrel
        by_cases hlt : k < s.size
        · have hkI : (k : Int) < (s.size : Int) := by omega
          have hin : (((s[k]'hlt).toNat : Nat) : Int) = sb s k := sb_eq s k hlt
          have HC : Bx (sb s k = l.getD k 0) := ⟨HSB.out k (by have := HZ.out; omega)⟩
          have HE : Bx (letB (l.getD k 0) = (smB (l.getD k 0) || (lgB (l.getD k 0) || decide (l.getD k 0 = 45)))) := ⟨letB_eq _⟩
          rw [← HC.out] at HE
          generalize sb s k = C at hin HC HE
          by_cases c1 : smB C = true
          · have C1 : Hid (Calls Tryz.prog 86 #[.int .u8 C] wr fun e w' => e = .returned (.bool true) ∧ w' = wr) := by rw [← c1]; exact wsmall_any C wr
            have HJ2 : Bx (∀ j, j < k + 1 → letB (l.getD j 0) = true) := ⟨all_step HJ.out (by rw [← HC.out, HE.out, c1]; rfl)⟩
            clear c1 HE HJ
            go_wp2_with fail
            refine C1.out.mono ?_
            rintro e w' ⟨rfl, rfl⟩
            go_wp2
            go_roundw
            case rel => exact ⟨k + 1, by omega, by go_num, by first | rfl | trivial, HJ2⟩
            case measure => simp [intOf]; omega
          · by_cases c2 : lgB C = true
            · have C1 : Hid (∀ wr, Calls Tryz.prog 86 #[.int .u8 C] wr fun e w' => e = .returned (.bool false) ∧ w' = wr) := fun wr => by have := wsmall_any C wr; rwa [Bool.eq_false_iff.2 c1] at this
              have C2 : Hid (∀ wr, Calls Tryz.prog 89 #[.int .u8 C] wr fun e w' => e = .returned (.bool true) ∧ w' = wr) := fun wr => by rw [← c2]; exact wlarge_any C wr
              have HJ2 : Bx (∀ j, j < k + 1 → letB (l.getD j 0) = true) := ⟨all_step HJ.out (by rw [← HC.out, HE.out, c2]; simp)⟩
              clear c1 c2 HE HJ
              go_wp2_with fail
              refine (C1.out _).mono ?_
              rintro e w' ⟨rfl, rfl⟩
              go_wp2_with fail
              refine (C2.out _).mono ?_
              rintro e w' ⟨rfl, rfl⟩
              go_wp2
              go_roundw
              case rel => exact ⟨k + 1, by omega, by go_num, by first | rfl | trivial, HJ2⟩
              case measure => simp [intOf]; omega
            · have C1 : Hid (∀ wr, Calls Tryz.prog 86 #[.int .u8 C] wr fun e w' => e = .returned (.bool false) ∧ w' = wr) := fun wr => by have := wsmall_any C wr; rwa [Bool.eq_false_iff.2 c1] at this
              have C2 : Hid (∀ wr, Calls Tryz.prog 89 #[.int .u8 C] wr fun e w' => e = .returned (.bool false) ∧ w' = wr) := fun wr => by have := wlarge_any C wr; rwa [Bool.eq_false_iff.2 c2] at this
              have HE2 : Bx (letB C = decide (C = 45)) := ⟨by rw [HE.out]; simp [c1, c2]⟩
              clear c1 c2 HE
              by_cases c3 : C = 45
              · have h45 : (C != 45) = false := by simp [c3]
                have HJ2 : Bx (∀ j, j < k + 1 → letB (l.getD j 0) = true) := ⟨all_step HJ.out (by rw [← HC.out, HE2.out]; simpa using c3)⟩
                clear c3 HJ HE2
                go_wp2_with fail
                refine (C1.out _).mono ?_
                rintro e w' ⟨rfl, rfl⟩
                go_wp2_with fail
                refine (C2.out _).mono ?_
                rintro e w' ⟨rfl, rfl⟩
                go_wp2
                go_roundw
                case rel => exact ⟨k + 1, by omega, by go_num, by first | rfl | trivial, HJ2⟩
                case measure => simp [intOf]; omega
              · have h45 : (C != 45) = true := by simp [c3]
                have HF : Bx (l.all letB = false) := ⟨not_all_of (k := k) (by have := HZ.out; omega) (by rw [← HC.out, HE2.out]; simpa using c3)⟩
                clear c3 HJ HE2
                go_wp2_with fail
                refine (C1.out _).mono ?_
                rintro e w' ⟨rfl, rfl⟩
                go_wp2_with fail
                refine (C2.out _).mono ?_
                rintro e w' ⟨rfl, rfl⟩
                go_wp2
                go_ret
                exact ⟨by rw [HA.out, HF.out]; rfl, rfl⟩
        · have hge : ¬ (k : Int) < (s.size : Int) := by omega
          have HT : Bx (l.all letB = true) := ⟨all_of_getD fun j hj => HJ.out j (by have := HZ.out; omega)⟩
          go_wp2
          go_ret
          exact ⟨by rw [HA.out, HT.out]; rfl, rfl⟩
end Go.Proofs.YtpfijaojgeceeaaGreatDoor
namespace Go.Proofs.YtpfijaojgeceeaaGreatDoor
open Go.RowKit
set_option linter.unusedVariables false

set_option maxRecDepth 100000 in
theorem tgC_eq (c : Int) : tgC c = (smB c || (dig c || (decide (c = 45) || decide (c = 47)))) := rfl
set_option maxRecDepth 100000 in
set_option maxHeartbeats 1000000 in
theorem wtarget_any (l : List Int) (w : World) (hl : Byt l) (hs : l.length ≤ 1000000) : Calls Tryz.prog 67 #[.string (strOf l)] w fun e w' => e = .returned (.bool (tgB l)) ∧ w' = w := by
  have HL := Bx.mk hl
  have HSB : Bx (∀ i, i < l.length → sb (strOf l) i = l.getD i 0) := ⟨fun i hi => sbw_strOf hl i hi⟩
  have C0 : Hid (∀ wr, Calls Tryz.prog 85 #[.string (strOf l), .string ⟨#[47]⟩] wr fun e w' => e = .returned (.bool (decide (l.take 1 = [47]))) ∧ w' = wr) := fun wr => prefix_any l [47] wr hl (byt_dec (by decide))
  have hsz0 : (strOf l).size = l.length := strOf_size l
  generalize hS : strOf l = s at hsz0 HSB C0
  have HZ := Bx.mk hsz0
  clear hS hl hsz0
  by_cases h0 : 64 < l.length
  · have hz : (64 : Int) < (s.size : Int) := by have := HZ.out; omega
    have HN : Bx (tgB l = false) := ⟨by unfold tgB; simp; omega⟩
    clear h0
    go_enter Tryz.func67, Tryz.ntmps67
    go_wp2_with fail
    go_ret
    exact ⟨by rw [HN.out]; rfl, rfl⟩
  · have hz : ¬ (64 : Int) < (s.size : Int) := by have := HZ.out; omega
    by_cases h1 : l.take 1 = [47]
    · have hne : 1 ≤ l.length := by
        cases l with
        | nil => cases h1
        | cons _ _ => simp
      have h47 : l.getD 0 0 = 47 := by
        cases l with
        | nil => cases h1
        | cons a r => simpa using h1
      have HA : Bx (tgB l = l.all tgC) := ⟨by unfold tgB; rw [decide_eq_true hne, decide_eq_true (by omega : l.length ≤ 64), decide_eq_true h47]; rfl⟩
      rw [decide_eq_true h1] at C0
      have hle : s.size ≤ 64 := by have := HZ.out; omega
      clear h0 h1 h47 hne
      go_enter Tryz.func67, Tryz.ntmps67
      go_wp2_with fail
      refine (C0.out _).mono ?_
      rintro e w' ⟨rfl, rfl⟩
      go_wp2_with fail
      go_loopw [14] (fun i wr => ∃ (k : Nat), k ≤ s.size ∧ i = .int .i64 k ∧ wr = w' ∧ Bx (∀ j, j < k → tgC (l.getD j 0) = true)) (fun i _ => s.size - (intOf i).toNat)
      case atStart => exact ⟨0, Nat.zero_le _, rfl, rfl, ⟨fun j hj => by omega⟩⟩
      case round =>
        obtain ⟨k, hk, rfl, rfl, HJ⟩ := hrel
        by_cases hlt : k < s.size
        · have hkI : (k : Int) < (s.size : Int) := by omega
          have hin : (((s[k]'hlt).toNat : Nat) : Int) = sb s k := sb_eq s k hlt
          have HC : Bx (sb s k = l.getD k 0) := ⟨HSB.out k (by have := HZ.out; omega)⟩
          have HE : Bx (tgC (l.getD k 0) = (smB (l.getD k 0) || (dig (l.getD k 0) || (decide (l.getD k 0 = 45) || decide (l.getD k 0 = 47))))) := ⟨tgC_eq _⟩
          rw [← HC.out] at HE
          generalize sb s k = C at hin HC HE
          have C1 : Hid (∀ wr, Calls Tryz.prog 86 #[.int .u8 C] wr fun e w' => e = .returned (.bool (smB C)) ∧ w' = wr) := fun wr => wsmall_any C wr
          have C2 : Hid (∀ wr, Calls Tryz.prog 87 #[.int .u8 C] wr fun e w' => e = .returned (.bool (dig C)) ∧ w' = wr) := fun wr => wdigit_any C wr
          generalize smB C = b1 at C1 HE
          generalize dig C = b2 at C2 HE
          cases b1 with
          | true =>
            have HJ2 : Bx (∀ j, j < k + 1 → tgC (l.getD j 0) = true) := ⟨all_step HJ.out (by rw [← HC.out, HE.out]; rfl)⟩
            clear HE HJ
            go_wp2_with fail
            refine (C1.out _).mono ?_
            rintro e w' ⟨rfl, rfl⟩
            go_wp2
            go_roundw
            case rel => exact ⟨k + 1, by omega, by go_num, by first | rfl | trivial, HJ2⟩
            case measure => simp [intOf]; omega
          | false =>
            cases b2 with
            | true =>
              have HJ2 : Bx (∀ j, j < k + 1 → tgC (l.getD j 0) = true) := ⟨all_step HJ.out (by rw [← HC.out, HE.out]; rfl)⟩
              clear HE HJ
              go_wp2_with fail
              refine (C1.out _).mono ?_
              rintro e w' ⟨rfl, rfl⟩
              go_wp2_with fail
              refine (C2.out _).mono ?_
              rintro e w' ⟨rfl, rfl⟩
              go_wp2
              go_roundw
              case rel => exact ⟨k + 1, by omega, by go_num, by first | rfl | trivial, HJ2⟩
              case measure => simp [intOf]; omega
            | false =>
              by_cases c3 : C = 45
              · have h45 : (C != 45) = false := by simp [c3]
                have HJ2 : Bx (∀ j, j < k + 1 → tgC (l.getD j 0) = true) := ⟨all_step HJ.out (by rw [← HC.out, HE.out]; simp [c3])⟩
                clear HE HJ c3
                go_wp2_with fail
                refine (C1.out _).mono ?_
                rintro e w' ⟨rfl, rfl⟩
                go_wp2_with fail
                refine (C2.out _).mono ?_
                rintro e w' ⟨rfl, rfl⟩
                go_wp2
                go_roundw
                case rel => exact ⟨k + 1, by omega, by go_num, by first | rfl | trivial, HJ2⟩
                case measure => simp [intOf]; omega
              · have h45 : (C != 45) = true := by simp [c3]
                by_cases c4 : C = 47
                · have h47 : (C != 47) = false := by simp [c4]
                  have HJ2 : Bx (∀ j, j < k + 1 → tgC (l.getD j 0) = true) := ⟨all_step HJ.out (by rw [← HC.out, HE.out]; simp [c4])⟩
                  clear HE HJ c3 c4
                  go_wp2_with fail
                  refine (C1.out _).mono ?_
                  rintro e w' ⟨rfl, rfl⟩
                  go_wp2_with fail
                  refine (C2.out _).mono ?_
                  rintro e w' ⟨rfl, rfl⟩
                  go_wp2
                  go_roundw
                  case rel => exact ⟨k + 1, by omega, by go_num, by first | rfl | trivial, HJ2⟩
                  case measure => simp [intOf]; omega
                · have h47 : (C != 47) = true := by simp [c4]
                  have HF : Bx (l.all tgC = false) := ⟨not_all_of (k := k) (by have := HZ.out; omega) (by rw [← HC.out, HE.out]; simp [c3, c4])⟩
                  clear HE HJ c3 c4
                  go_wp2_with fail
                  refine (C1.out _).mono ?_
                  rintro e w' ⟨rfl, rfl⟩
                  go_wp2_with fail
                  refine (C2.out _).mono ?_
                  rintro e w' ⟨rfl, rfl⟩
                  go_wp2
                  go_ret
                  exact ⟨by rw [HA.out, HF.out]; rfl, rfl⟩
        · have hge : ¬ (k : Int) < (s.size : Int) := by omega
          have HT : Bx (l.all tgC = true) := ⟨all_of_getD fun j hj => HJ.out j (by have := HZ.out; omega)⟩
          go_wp2
          go_ret
          exact ⟨by rw [HA.out, HT.out]; rfl, rfl⟩
    · have HN : Bx (tgB l = false) := ⟨by
        unfold tgB
        cases l with
        | nil => rfl
        | cons a r =>
          have : ¬ a = 47 := by simpa using h1
          simp [this]⟩
      rw [decide_eq_false h1] at C0
      clear h0 h1
      go_enter Tryz.func67, Tryz.ntmps67
      go_wp2_with fail
      refine (C0.out _).mono ?_
      rintro e w' ⟨rfl, rfl⟩
      go_wp2
      go_ret
      exact ⟨by rw [HN.out]; rfl, rfl⟩
end Go.Proofs.YtpfijaojgeceeaaGreatDoor
