/- Whether a text is a key: the program's answer and the document's. Whether changes can be: the program's answer. Check, the program's and the document's. -/
import Derived.Test.YtjnjokbdoendkaaGreatTBase
import Derived.Test.YtjnjokbdoendkaaGreatSsm
import Derived.Test.YtjnjokbdoendkaaGreatStoreMem
namespace Go.Proofs.YtjnjokbdoendkaaGreat
open Go.RowKit
set_option linter.unusedVariables false

def okB (c : Int) : Bool := decide (33 ≤ c) && decide (c ≤ 126)
set_option maxRecDepth 100000 in
theorem strL_get (s : ByteArray) (i : Nat) (h : i < s.size) : (strL s)[i]? = some (sb s i) := by
  have h2 : i < s.data.toList.length := by rw [← Lib.size_eq]; exact h
  unfold strL sb
  rw [List.getElem?_map, List.getElem?_eq_getElem h2, List.getD_eq_getElem?_getD, List.getElem?_eq_getElem h2]; rfl
set_option maxRecDepth 100000 in
theorem all_sb (s : ByteArray) : (strL s).all okB = true ↔ ∀ j, j < s.size → okB (sb s j) = true := by
  rw [List.all_eq_true]
  constructor
  · intro h j hj
    exact h _ (List.mem_of_getElem? (strL_get s j hj))
  · intro h c hc
    obtain ⟨i, hi, e⟩ := List.getElem_of_mem hc
    have hi2 : i < s.size := by rw [← strL_length]; exact hi
    have := strL_get s i hi2
    rw [List.getElem?_eq_getElem hi, e] at this
    rw [Option.some.inj this]; exact h i hi2
set_option maxRecDepth 100000 in
theorem kOk_no {s : ByteArray} {k : Nat} (hk : k < s.size) (h : okB (sb s k) = false) : false = kOk s := by
  have : (strL s).all okB = false := by
    cases e : (strL s).all okB with
    | false => rfl
    | true => rw [(all_sb s).1 e k hk] at h; cases h
  have e2 : kOk s = ((strL s).all okB && (decide (1 ≤ s.size) && decide (s.size ≤ 40))) := rfl
  rw [e2, this]; rfl
set_option maxRecDepth 100000 in
theorem kOk_yes {s : ByteArray} (h : ∀ j, j < s.size → okB (sb s j) = true) : kOk s = (decide (1 ≤ s.size) && decide (s.size ≤ 40)) := by
  have e2 : kOk s = ((strL s).all okB && (decide (1 ≤ s.size) && decide (s.size ≤ 40))) := rfl
  rw [e2, (all_sb s).2 h]; rfl
set_option maxRecDepth 100000 in
theorem okB_step {s : ByteArray} {k : Nat} (h : ∀ j, j < k → okB (sb s j) = true) (hk : okB (sb s k) = true) : ∀ j, j < k + 1 → okB (sb s j) = true := by
  intro j hj
  by_cases e : j = k
  · rw [e]; exact hk
  · exact h j (by omega)
set_option maxHeartbeats 400000 in
theorem iskey_any (s : ByteArray) (w : World) (hs : s.size ≤ 9223372036854775807) :
    Calls Tryz.prog 121 #[.string s] w fun e w' => e = .returned (.bool (kOk s)) ∧ w = w' := by
  go_enter Tryz.func121, Tryz.ntmps121
  go_wp2_with fail
  go_loop [6] (fun i => ∃ k : Nat, k ≤ s.size ∧ i = .int .i64 k ∧ ∀ j, j < k → okB (sb s j) = true) (fun i => s.size - (intOf i).toNat)
  case atStart => exact ⟨0, Nat.zero_le _, rfl, fun j hj => by omega⟩
  case round =>
    obtain ⟨k, hk, rfl, hj⟩ := hrel
    have HJ : Hid (∀ j, j < k → okB (sb s j) = true) := hj
    clear hj
    by_cases hlt : k < s.size
    · have hki : (k : Int) < (s.size : Int) := by omega
      have hk0 : (0 : Int) ≤ (k : Int) := by omega
      have hsk : ∀ h, (((s[k]'h).toNat : Nat) : Int) = sb s k := fun h => sb_eq s k h
      cases hn : okB (sb s k) with
      | true =>
        have HN : Hid (okB (sb s k) = true) := hn
        have hn2 : 33 ≤ sb s k ∧ sb s k ≤ 126 := by simpa [okB] using hn
        have g1 : decide (sb s k < 33) = false := by simp; omega
        have g2 : decide (sb s k > 126) = false := by simp; omega
        clear hn hn2
        go_wp2_with fail
        go_round
        case rel => exact ⟨k + 1, by omega, by go_num, okB_step HJ.out HN.out⟩
        case measure => simp [intOf]; omega
      | false =>
        have HN : Hid (okB (sb s k) = false) := hn
        by_cases h1 : 33 ≤ sb s k
        · have h2 : ¬ sb s k ≤ 126 := fun h => by rw [show okB (sb s k) = true from by simp [okB]; omega] at hn; cases hn
          have g1 : decide (sb s k < 33) = false := by simp; omega
          have g2 : decide (sb s k > 126) = true := by simp; omega
          clear hn h1 h2
          go_wp2_with fail
          go_ret
          exact ⟨ret_bool (kOk_no hlt HN.out), rfl⟩
        · have g1 : decide (sb s k < 33) = true := by simp; omega
          clear hn h1
          go_wp2_with fail
          go_ret
          exact ⟨ret_bool (kOk_no hlt HN.out), rfl⟩
    · have hkn : k = s.size := by omega
      have HK : Hid (kOk s = (decide (1 ≤ s.size) && decide (s.size ≤ 40))) := kOk_yes (fun j hj => HJ.out j (by omega))
      have hki : ¬ (k : Int) < (s.size : Int) := by omega
      clear hkn HJ
      by_cases h1 : 1 ≤ s.size
      · have g1 : decide ((s.size : Int) ≥ 1) = true := by simp; omega
        by_cases h2 : s.size ≤ 40
        · have g2 : decide ((s.size : Int) ≤ 40) = true := by simp; omega
          have HE : Hid (kOk s = true) := HK.out.trans (by simp [h1, h2])
          clear h1 h2
          go_wp2_with fail
          all_goals (go_ret; exact ⟨ret_bool HE.out.symm, rfl⟩)
        · have g2 : decide ((s.size : Int) ≤ 40) = false := by simp; omega
          have HE : Hid (kOk s = false) := HK.out.trans (by simp [h2])
          clear h1 h2
          go_wp2_with fail
          all_goals (go_ret; exact ⟨ret_bool HE.out.symm, rfl⟩)
      · have g1 : decide ((s.size : Int) ≥ 1) = false := by simp; omega
        have HE : Hid (kOk s = false) := HK.out.trans (by simp [h1])
        clear h1
        go_wp2_with fail
        all_goals (go_ret; exact ⟨ret_bool HE.out.symm, rfl⟩)
set_option maxHeartbeats 400000 in
theorem refkey_any (s : ByteArray) (w : World) (hs : s.size ≤ 9223372036854775807) :
    Calls Tryz.prog 109 #[.string s] w fun e w' => e = .returned (.bool (kOk s)) ∧ w = w' := by
  go_enter Tryz.func109, Tryz.ntmps109
  go_wp2_with fail
  go_loop [3] (fun i => ∃ k : Nat, k ≤ s.size ∧ i = .int .i64 k ∧ ∀ j, j < k → okB (sb s j) = true) (fun i => s.size - (intOf i).toNat)
  case atStart => exact ⟨0, Nat.zero_le _, rfl, fun j hj => by omega⟩
  case round =>
    obtain ⟨k, hk, rfl, hj⟩ := hrel
    have HJ : Hid (∀ j, j < k → okB (sb s j) = true) := hj
    clear hj
    by_cases hlt : k < s.size
    · have hki : (k : Int) < (s.size : Int) := by omega
      have hk0 : (0 : Int) ≤ (k : Int) := by omega
      have hsk : ∀ h, (((s[k]'h).toNat : Nat) : Int) = sb s k := fun h => sb_eq s k h
      cases hn : okB (sb s k) with
      | true =>
        have HN : Hid (okB (sb s k) = true) := hn
        have hn2 : 33 ≤ sb s k ∧ sb s k ≤ 126 := by simpa [okB] using hn
        have g1 : decide (sb s k ≤ 32) = false := by simp; omega
        have g2 : decide (sb s k ≥ 127) = false := by simp; omega
        clear hn hn2
        go_wp2_with fail
        go_round
        case rel => exact ⟨k + 1, by omega, by go_num, okB_step HJ.out HN.out⟩
        case measure => simp [intOf]; omega
      | false =>
        have HN : Hid (okB (sb s k) = false) := hn
        by_cases h1 : 33 ≤ sb s k
        · have h2 : ¬ sb s k ≤ 126 := fun h => by rw [show okB (sb s k) = true from by simp [okB]; omega] at hn; cases hn
          have g1 : decide (sb s k ≤ 32) = false := by simp; omega
          have g2 : decide (sb s k ≥ 127) = true := by simp; omega
          clear hn h1 h2
          go_wp2_with fail
          go_ret
          exact ⟨ret_bool (kOk_no hlt HN.out), rfl⟩
        · have g1 : decide (sb s k ≤ 32) = true := by simp; omega
          clear hn h1
          go_wp2_with fail
          go_ret
          exact ⟨ret_bool (kOk_no hlt HN.out), rfl⟩
    · have hkn : k = s.size := by omega
      have HK : Hid (kOk s = (decide (1 ≤ s.size) && decide (s.size ≤ 40))) := kOk_yes (fun j hj => HJ.out j (by omega))
      have hki : ¬ (k : Int) < (s.size : Int) := by omega
      clear hkn HJ
      by_cases h1 : 1 ≤ s.size
      · have g1 : decide ((s.size : Int) ≥ 1) = true := by simp; omega
        by_cases h2 : s.size ≤ 40
        · have g2 : decide ((s.size : Int) ≤ 40) = true := by simp; omega
          have HE : Hid (kOk s = true) := HK.out.trans (by simp [h1, h2])
          clear h1 h2
          go_wp2_with fail
          all_goals (go_ret; exact ⟨ret_bool HE.out.symm, rfl⟩)
        · have g2 : decide ((s.size : Int) ≤ 40) = false := by simp; omega
          have HE : Hid (kOk s = false) := HK.out.trans (by simp [h2])
          clear h1 h2
          go_wp2_with fail
          all_goals (go_ret; exact ⟨ret_bool HE.out.symm, rfl⟩)
      · have g1 : decide ((s.size : Int) ≥ 1) = false := by simp; omega
        have HE : Hid (kOk s = false) := HK.out.trans (by simp [h1])
        clear h1
        go_wp2_with fail
        all_goals (go_ret; exact ⟨ret_bool HE.out.symm, rfl⟩)
end Go.Proofs.YtjnjokbdoendkaaGreat
namespace Go.Proofs.YtjnjokbdoendkaaGreat
open Go.RowKit
set_option linter.unusedVariables false

set_option maxRecDepth 100000 in
theorem str_eq {a b : ByteArray} (h : a = b) : (a.toList == b.toList) = true := (Lib.bytes_beq_iff a b).2 h
set_option maxRecDepth 100000 in
theorem str_ne {a b : ByteArray} (h : a ≠ b) : (a.toList == b.toList) = false := (Lib.bytes_beq_false_iff a b).2 h
set_option maxHeartbeats 400000 in
theorem same_key (k key : ByteArray) (d : Bool) (a : Option Addr) (n c bc : Nat) (w : World) (hb : bc < w.heap.size) (hc : w.cell? ⟨bc, 0, none⟩ = some (.string key)) :
    Calls Tryz.prog 123 #[.agg #[.string k, .bool d, .slice a n c], .pointer (some ⟨bc, 0, none⟩)] w fun e w' => e = .returned (.bool (decide (k = key))) ∧ Below w.heap.size w w' := by
  have hne : bc ≠ w.heap.size := by omega
  have hbw : Bx (∀ o, Below w.heap.size w (w.alloc o)) := ⟨fun o => (Below.refl _ _).alloc (Nat.le_refl _) o⟩
  by_cases e : k = key
  · have h1 := str_eq e
    have HE : Bx (decide (k = key) = true) := ⟨by simp [e]⟩
    clear e
    go_enter Tryz.func123, Tryz.ntmps123
    go_wp2_with fail
    go_ret
    exact ⟨ret_bool HE.out.symm, hbw.out _⟩
  · have h1 := str_ne e
    have HE : Bx (decide (k = key) = false) := ⟨by simp [e]⟩
    clear e
    go_enter Tryz.func123, Tryz.ntmps123
    go_wp2_with fail
    go_ret
    exact ⟨ret_bool HE.out.symm, hbw.out _⟩
/-- where it stands -/
def fdK (L : List Chg) (key : ByteArray) : Option Nat := L.findIdx? (fun c => decide (c.key = key))
def fdI (L : List Chg) (key : ByteArray) : Int := match fdK L key with | some i => i | none => -1
set_option maxRecDepth 100000 in
theorem fdI_none {L : List Chg} {key : ByteArray} (h : ∀ j (hj : j < L.length), L[j].key ≠ key) : fdI L key = -1 := by
  have : fdK L key = none := List.findIdx?_eq_none_iff.2 fun c hc => by
    obtain ⟨i, hi, e⟩ := List.getElem_of_mem hc
    rw [← e]; simpa using h i hi
  rw [fdI, this]
set_option maxRecDepth 100000 in
theorem fdI_some {L : List Chg} {key : ByteArray} {k : Nat} (hk : k < L.length) (h : ∀ j (hj : j < L.length), j < k → L[j].key ≠ key) (he : L[k].key = key) : fdI L key = k := by
  have : fdK L key = some k := by
    unfold fdK
    rw [List.findIdx?_eq_some_iff_getElem]
    exact ⟨hk, by simpa using he, fun j hj => by simpa using h j (by omega) hj⟩
  rw [fdI, this]
set_option maxRecDepth 100000 in
theorem fdI_any (L : List Chg) (key : ByteArray) : L.any (fun a => decide (a.key = key)) = decide (0 ≤ fdI L key) := by
  unfold fdI fdK
  cases e : L.findIdx? (fun c => decide (c.key = key)) with
  | none =>
    have := List.findIdx?_eq_none_iff.1 e
    simp only [show decide ((0 : Int) ≤ -1) = false from rfl]
    exact List.any_eq_false.2 fun c hc => by simpa using this c hc
  | some i =>
    obtain ⟨h1, h2, _⟩ := List.findIdx?_eq_some_iff_getElem.1 e
    rw [show decide ((0 : Int) ≤ (i : Int)) = true from by simp]
    exact List.any_eq_true.2 ⟨_, List.getElem_mem h1, h2⟩
set_option maxRecDepth 100000 in
set_option maxHeartbeats 1000000 in
theorem index_key (key : ByteArray) (bc : Nat) (B : Nat → Prop) (ao : Option Addr) (len cap : Nat) (L : List Chg) (w : World) (hb : bc < w.heap.size) (hc : w.cell? ⟨bc, 0, none⟩ = some (.string key)) (h : CT B w ao len cap L) :
    Calls Tryz.prog 140 #[.slice ao len cap, .func (.func 123) #[] #[.pointer (some ⟨bc, 0, none⟩)]] w fun e w' => e = .returned (.int .i64 (fdI L key)) ∧ Below w.heap.size w w' := by
  have HL : Bx (CT B w ao len cap L) := ⟨h⟩
  have HC : Bx (bc < w.heap.size ∧ w.cell? ⟨bc, 0, none⟩ = some (.string key)) := ⟨hb, hc⟩
  have hlen : L.length = len := h.len_eq
  have HLEN : Bx (L.length = len) := ⟨hlen⟩
  have hcl := h.le_cap
  have hcm := h.cap_le
  unfold maxLen at hcm
  clear hlen h hb hc
  go_enter Tryz.func140, Tryz.ntmps140
  go_wp2_with fail
  go_loopw [8] (fun i wr => ∃ k : Nat, k ≤ len ∧ i = .int .i64 k ∧ Below w.heap.size w wr ∧ Bx (∀ j (hj : j < L.length), j < k → L[j].key ≠ key)) (fun i _ => len - (intOf i).toNat)
  case atStart => exact ⟨0, Nat.zero_le _, rfl, Below.refl _ _, ⟨fun j _ hj => by omega⟩⟩
  case round =>
    obtain ⟨k, hk, rfl, hbw, HN⟩ := hrel
    by_cases hlt : k < len
    · have hkI : (k : Int) < (len : Int) := by omega
      obtain ⟨b, off, ai, ni, ci, rfl, hbl, _, h1, h2, h3, _, _⟩ := (HL.out.below hbw).chg k hlt
      have hcr : wr.cell? ⟨bc, 0, none⟩ = some (.string key) := (hbw.cell HC.out.1).trans HC.out.2
      have hbr : bc < wr.heap.size := Nat.lt_of_lt_of_le HC.out.1 hbw.size
      have HK : Bx (∀ h : k < L.length, L[k].key = (L[k]'(by rw [HLEN.out]; exact hlt)).key) := ⟨fun _ => rfl⟩
      generalize hkk : (L[k]'(by rw [HLEN.out]; exact hlt)).key = kk at h1 HK
      generalize (L[k]'(by rw [HLEN.out]; exact hlt)).del = dd at h2
      clear hkk
      go_wp2_with fail
      refine (same_key kk key dd ai ni ci bc _ hbr hcr).mono ?_
      rintro e w2 ⟨rfl, hb2⟩
      have hbw2 := bstep hbw hb2
      clear hb2 hbr hcr h1 h2 h3 hbl
      by_cases e : kk = key
      · have HF : Bx (fdI L key = k) := ⟨fdI_some (by rw [HLEN.out]; exact hlt) (fun j hj hjk => HN.out j hj hjk) ((HK.out _).trans e)⟩
        have g : decide (kk = key) = true := by simp [e]
        rw [g]
        clear e g
        go_wp2_with fail
        go_ret
        exact ⟨ret_int HF.out.symm, hbw2⟩
      · have HF : Bx (∀ j (hj : j < L.length), j < k + 1 → L[j].key ≠ key) := ⟨fun j hj hjk => by
          by_cases ej : j = k
          · subst ej; rw [HK.out hj]; exact e
          · exact HN.out j hj (by omega)⟩
        have g : decide (kk = key) = false := by simp [e]
        rw [g]
        clear e g
        go_wp2_with fail
        go_roundw
        case rel => exact ⟨k + 1, by omega, by go_num, hbw2, HF⟩
        case measure => simp [intOf]; omega
    · have hkI : ¬ (k : Int) < (len : Int) := by omega
      have HF : Bx (fdI L key = -1) := ⟨fdI_none fun j hj => HN.out j hj (by rw [HLEN.out] at hj; omega)⟩
      go_wp2_with fail
      go_ret
      exact ⟨ret_int HF.out.symm, hbw⟩
set_option maxHeartbeats 400000 in
theorem contains_key (key : ByteArray) (bc : Nat) (B : Nat → Prop) (ao : Option Addr) (len cap : Nat) (L : List Chg) (w : World) (hb : bc < w.heap.size) (hc : w.cell? ⟨bc, 0, none⟩ = some (.string key)) (h : CT B w ao len cap L) :
    Calls Tryz.prog 122 #[.slice ao len cap, .func (.func 123) #[] #[.pointer (some ⟨bc, 0, none⟩)]] w fun e w' => e = .returned (.bool (L.any (fun a => decide (a.key = key)))) ∧ Below w.heap.size w w' := by
  have HL : Bx (CT B w ao len cap L) := ⟨h⟩
  have HC : Bx (bc < w.heap.size ∧ w.cell? ⟨bc, 0, none⟩ = some (.string key)) := ⟨hb, hc⟩
  have HE := fdI_any L key
  generalize hx : L.any (fun a => decide (a.key = key)) = X at HE ⊢
  clear h hb hc hx
  go_enter Tryz.func122, Tryz.ntmps122
  go_wp2_with fail
  refine (index_key key bc B ao len cap L _ HC.out.1 HC.out.2 HL.out).mono ?_
  rintro e w2 ⟨rfl, hb2⟩
  generalize fdI L key = y at HE
  have HE2 : Bx (X = decide (0 ≤ y)) := ⟨HE⟩
  clear HE
  by_cases g : y ≥ 0
  · have HX : Bx (X = true) := ⟨by rw [HE2.out]; simpa using g⟩
    go_wp2_with fail
    go_ret
    exact ⟨ret_bool HX.out.symm, hb2⟩
  · skip
    go_wp2_with fail
    go_ret
    exact ⟨ret_bool HE2.out.symm, hb2⟩
set_option maxRecDepth 100000 in
set_option maxHeartbeats 1000000 in
theorem checkchange_any (key : ByteArray) (del : Bool) (val : List Int) (ai : Option Addr) (ni ci : Nat) (B : Nat → Prop) (ao : Option Addr) (len cap : Nat) (L : List Chg) (w : World) (hs : key.size ≤ 9223372036854775807) (hv : Bts w ai ni ci val) (h : CT B w ao len cap L) :
    Calls Tryz.prog 99 #[.agg #[.string key, .bool del, .slice ai ni ci], .slice ao len cap] w fun e w' => e = .returned (.int .i64 (chk1 ⟨key, del, val⟩ L)) ∧ Below w.heap.size w w' := by
  have hn : val.length = ni := hv.len_eq
  have hbw : Bx (∀ o, Below w.heap.size w (w.alloc o)) := ⟨fun o => (Below.refl _ _).alloc (Nat.le_refl _) o⟩
  have HL : Bx (CT B w ao len cap L) := ⟨h⟩
  have HCH : Bx (chk1 ⟨key, del, val⟩ L = if kOk key = false then 2 else if 4096 < ni then 5 else if del = true ∧ 0 < ni then 2 else if L.any (fun a => decide (a.key = key)) = true then 10 else 0) := ⟨by rw [← hn]; rfl⟩
  have hmx := Nat.le_trans hv.le_cap hv.cap_le
  unfold maxLen at hmx
  generalize chk1 ⟨key, del, val⟩ L = X at HCH ⊢
  clear h hv hn
  go_enter Tryz.func99, Tryz.ntmps99
  go_wp2_with fail
  refine (iskey_any key _ hs).mono ?_
  rintro e w2 ⟨rfl, rfl⟩
  cases hk : kOk key with
  | false =>
    have HX : Bx (X = 2) := ⟨by rw [HCH.out, if_pos hk]⟩
    clear hk HCH HL
    go_wp2_with fail
    go_ret
    exact ⟨ret_int HX.out.symm, hbw.out _⟩
  | true =>
    have HCH2 : Bx (X = if 4096 < ni then 5 else if del = true ∧ 0 < ni then 2 else if L.any (fun a => decide (a.key = key)) = true then 10 else 0) := ⟨by rw [HCH.out, if_neg (by rw [hk]; decide)]⟩
    clear HCH hk
    by_cases h1 : 4096 < ni
    · have HX : Bx (X = 5) := ⟨by rw [HCH2.out, if_pos h1]⟩
      have g1 : (4096 : Int) < (ni : Int) := by omega
      clear HCH2 HL
      go_wp2_with fail
      go_ret
      exact ⟨ret_int HX.out.symm, hbw.out _⟩
    · have HCH3 : Bx (X = if del = true ∧ 0 < ni then 2 else if L.any (fun a => decide (a.key = key)) = true then 10 else 0) := ⟨by rw [HCH2.out, if_neg h1]⟩
      have g1 : ¬ (4096 : Int) < (ni : Int) := by omega
      clear HCH2
      by_cases h2 : del = true ∧ 0 < ni
      · have HX : Bx (X = 2) := ⟨by rw [HCH3.out, if_pos h2]⟩
        obtain ⟨rfl, h2⟩ := h2
        have g2 : decide ((ni : Int) > 0) = true := by simp; omega
        clear HCH3 HL
        go_wp2_with fail
        go_ret
        exact ⟨ret_int HX.out.symm, hbw.out _⟩
      · have HCH4 : Bx (X = if L.any (fun a => decide (a.key = key)) = true then 10 else 0) := ⟨by rw [HCH3.out, if_neg h2]⟩
        clear HCH3
        have HW : Bx (∀ o, Below (w.alloc o).heap.size (w.alloc o) (w.alloc o)) := ⟨fun o => Below.refl _ _⟩
        have hrow : Bx (∀ T, (w.alloc (.cells #[.string key, .bool del, .slice ai ni ci] T)).cell? ⟨w.heap.size, 0, none⟩ = some (.string key)) := ⟨fun T => by simp⟩
        have hrowl : Bx (∀ T, w.heap.size < (w.alloc (.cells #[.string key, .bool del, .slice ai ni ci] T)).heap.size) := ⟨fun T => by simp⟩
        cases hd : del with
        | false =>
          subst hd
          clear h2
          go_wp2_with fail
          refine (contains_key key w.heap.size B ao len cap L _ (hrowl.out _) (hrow.out _) (HL.out.below (hbw.out _))).mono ?_
          rintro e w2 ⟨rfl, hb2⟩
          have hb3 := bstep (hbw.out _) hb2
          clear hb2
          generalize L.any (fun a => decide (a.key = key)) = Y at HCH4
          cases Y with
          | true =>
            have HX : Bx (X = 10) := ⟨by rw [HCH4.out, if_pos rfl]⟩
            go_wp2_with fail
            go_ret
            exact ⟨ret_int HX.out.symm, hb3⟩
          | false =>
            have HX : Bx (X = 0) := ⟨by rw [HCH4.out, if_neg (by decide)]⟩
            go_wp2_with fail
            go_ret
            exact ⟨ret_int HX.out.symm, hb3⟩
        | true =>
          subst hd
          have hz : ¬ 0 < ni := fun h => h2 ⟨rfl, h⟩
          have g2 : decide ((ni : Int) > 0) = false := by simp; omega
          have g3 : decide (0 < ni) = false := by simp; omega
          clear h2
          go_wp2_with fail
          refine (contains_key key w.heap.size B ao len cap L _ (hrowl.out _) (hrow.out _) (HL.out.below (hbw.out _))).mono ?_
          rintro e w2 ⟨rfl, hb2⟩
          have hb3 := bstep (hbw.out _) hb2
          clear hb2
          generalize L.any (fun a => decide (a.key = key)) = Y at HCH4
          cases Y with
          | true =>
            have HX : Bx (X = 10) := ⟨by rw [HCH4.out, if_pos rfl]⟩
            go_wp2_with fail
            go_ret
            exact ⟨ret_int HX.out.symm, hb3⟩
          | false =>
            have HX : Bx (X = 0) := ⟨by rw [HCH4.out, if_neg (by decide)]⟩
            go_wp2_with fail
            go_ret
            exact ⟨ret_int HX.out.symm, hb3⟩
end Go.Proofs.YtjnjokbdoendkaaGreat
namespace Go.Proofs.YtjnjokbdoendkaaGreat
open Go.RowKit
set_option linter.unusedVariables false

set_option maxRecDepth 100000 in
theorem chkF_step (L : List Chg) (k : Nat) (h : k < L.length) : chkF (L.take k) (L.drop k) = if chk1 L[k] (L.take k) = 0 then chkF (L.take (k + 1)) (L.drop (k + 1)) else chk1 L[k] (L.take k) := by
  rw [List.drop_eq_getElem_cons h, chkF, List.take_succ_eq_append_getElem h]
set_option maxRecDepth 100000 in
set_option maxHeartbeats 1000000 in
theorem check_any (B : Nat → Prop) (ao : Option Addr) (len cap : Nat) (L : List Chg) (w : World) (h : CT B w ao len cap L) (hks : ∀ c ∈ L, c.key.size ≤ 9223372036854775807) :
    Calls Tryz.prog 64 #[.slice ao len cap] w fun e w' => e = .returned (.int .i64 (chkL L)) ∧ Below w.heap.size w w' := by
  have HL : Bx (CT B w ao len cap L) := ⟨h⟩
  have HKS : Bx (∀ c ∈ L, c.key.size ≤ 9223372036854775807) := ⟨hks⟩
  have hlen : L.length = len := h.len_eq
  have HLEN : Bx (L.length = len) := ⟨hlen⟩
  have hcl := h.le_cap
  have hcm := h.cap_le
  unfold maxLen at hcm
  have HX : Bx (chkL L = if len < 1 ∨ 16 < len then 2 else chkF [] L) := ⟨by rw [← hlen]; rfl⟩
  generalize chkL L = X at HX ⊢
  clear hlen h hks
  by_cases h0 : len = 0
  · have HX2 : Bx (X = 2) := ⟨by rw [HX.out, if_pos (by omega)]⟩
    subst h0
    clear HX HL HLEN
    go_enter Tryz.func64, Tryz.ntmps64
    go_wp2_with fail
    go_ret
    exact ⟨ret_int HX2.out.symm, Below.refl _ _⟩
  · by_cases h16 : 16 < len
    · have HX2 : Bx (X = 2) := ⟨by rw [HX.out, if_pos (by omega)]⟩
      have g0 : ((len : Int) == 0) = false := by simp; omega
      have g1 : decide ((len : Int) > 16) = true := by simp; omega
      clear HX HL HLEN
      go_enter Tryz.func64, Tryz.ntmps64
      go_wp2_with fail
      go_ret
      exact ⟨ret_int HX2.out.symm, Below.refl _ _⟩
    · have HX2 : Bx (X = chkF (L.take 0) (L.drop 0)) := ⟨by rw [HX.out, if_neg (by omega)]; rfl⟩
      have g0 : ((len : Int) == 0) = false := by simp; omega
      have g1 : decide ((len : Int) > 16) = false := by simp; omega
      clear HX
      go_enter Tryz.func64, Tryz.ntmps64
      go_wp2_with fail
      go_loopw [16] (fun i wr => ∃ k : Nat, k ≤ len ∧ i = .int .i64 k ∧ Below w.heap.size w wr ∧ Bx (X = chkF (L.take k) (L.drop k))) (fun i _ => len - (intOf i).toNat)
      case atStart => exact ⟨0, Nat.zero_le _, rfl, Below.refl _ _, HX2⟩
      case round =>
        clear HX2
        obtain ⟨k, hk, rfl, hbw, HN⟩ := hrel
        by_cases hlt : k < len
        · have hkI : (k : Int) < (len : Int) := by omega
          have hkL : k < L.length := by rw [HLEN.out]; exact hlt
          have HST : Bx (X = if chk1 L[k] (L.take k) = 0 then chkF (L.take (k + 1)) (L.drop (k + 1)) else chk1 L[k] (L.take k)) := ⟨by rw [HN.out, chkF_step L k hkL]⟩
          have hLr := HL.out.below hbw
          obtain ⟨b, off, ai, ni, ci, rfl, hbl, _, h1, h2, h3, hbt, _⟩ := hLr.chg k hlt
          have hkey := HKS.out _ (List.getElem_mem hkL)
          have HTK : Bx (CT B wr (some ⟨b, off, none⟩) k cap (L.take k)) := ⟨hLr.take k (by omega)⟩
          generalize hcc : L[k] = cc at h1 h2 hbt hkey HST
          obtain ⟨kk, dd, vv⟩ := cc
          simp only at h1 h2 hbt hkey
          have HBT : Bx (Bts wr ai ni ci vv) := ⟨hbt⟩
          have HBW : Bx (Below w.heap.size w wr) := ⟨hbw⟩
          have hkc : (k : Int) ≤ (cap : Int) := by omega
          clear hcc hbt hLr hbw HN
          go_wp2_with fail
          have hba : Below wr.heap.size wr (wr.alloc (.cells #[.string kk, .bool dd, .slice ai ni ci] 48)) := (Below.refl _ _).alloc (Nat.le_refl _) _
          have c0 : (wr.alloc (.cells #[.string kk, .bool dd, .slice ai ni ci] 48)).drew.cell? ⟨wr.heap.size, 0, none⟩ = some (.string kk) := cell_of_row _ _ 0 _ _ (0, 0) (heap_alloc_new wr _)
          have c1 : (wr.alloc (.cells #[.string kk, .bool dd, .slice ai ni ci] 48)).drew.cell? ⟨wr.heap.size, 1, none⟩ = some (.bool dd) := cell_of_row _ _ 1 _ _ (0, 0) (heap_alloc_new wr _)
          have c2 : (wr.alloc (.cells #[.string kk, .bool dd, .slice ai ni ci] 48)).drew.cell? ⟨wr.heap.size, 2, none⟩ = some (.slice ai ni ci) := cell_of_row _ _ 2 _ _ (0, 0) (heap_alloc_new wr _)
          obtain ⟨wd, hwd⟩ : ∃ wd, wd = (wr.alloc (.cells #[.string kk, .bool dd, .slice ai ni ci] 48)).drew := ⟨_, rfl⟩
          rw [← hwd] at c0 c1 c2
          have hgl : wr.heap.size < wd.heap.size := by rw [hwd]; simp
          have HB2 : Below w.heap.size w wd ∧ Bts wd ai ni ci vv ∧ CT B wd (some ⟨b, off, none⟩) k cap (L.take k) := by rw [hwd]; exact ⟨(bstep HBW.out hba).drew, (HBT.out.below hba).drewN 1, (HTK.out.below hba).drewN 1⟩
          have hS0 : (wr.alloc (.cells #[.string kk, .bool dd, .slice ai ni ci] 48)).drew.cell? ⟨wr.heap.size, 0, none⟩ = some (.string kk) ∧ (wr.alloc (.cells #[.string kk, .bool dd, .slice ai ni ci] 48)).drew.cell? ⟨wr.heap.size, 1, none⟩ = some (.bool dd) ∧ (wr.alloc (.cells #[.string kk, .bool dd, .slice ai ni ci] 48)).drew.cell? ⟨wr.heap.size, 2, none⟩ = some (.slice ai ni ci) ∧ Below wd.heap.size wd (wr.alloc (.cells #[.string kk, .bool dd, .slice ai ni ci] 48)).drew := by rw [← hwd]; exact ⟨c0, c1, c2, Below.refl _ _⟩
          generalize hgr : wr.heap.size = gr at c0 c1 c2 hgl hS0 ⊢
          have HCC : Bx (∀ W, (W.cell? ⟨gr, 0, none⟩ = some (.string kk) ∧ W.cell? ⟨gr, 1, none⟩ = some (.bool dd) ∧ W.cell? ⟨gr, 2, none⟩ = some (.slice ai ni ci) ∧ Below wd.heap.size wd W) → Calls Tryz.prog 99 #[.agg #[.string kk, .bool dd, .slice ai ni ci], .slice (some ⟨b, off, none⟩) k cap] W fun e w' => e = .returned (.int .i64 (chk1 ⟨kk, dd, vv⟩ (L.take k))) ∧ w'.cell? ⟨gr, 0, none⟩ = some (.string kk) ∧ w'.cell? ⟨gr, 1, none⟩ = some (.bool dd) ∧ w'.cell? ⟨gr, 2, none⟩ = some (.slice ai ni ci) ∧ Below wd.heap.size wd w') := ⟨fun W ⟨_, _, _, hW⟩ => (checkchange_any kk dd vv ai ni ci B (some ⟨b, off, none⟩) k cap (L.take k) W hkey (HB2.2.1.below hW) (HB2.2.2.below hW)).mono fun _ _ ⟨e1, e2⟩ => ⟨e1, ((bstep hW e2).cell (p := ⟨gr, 0, none⟩) hgl).trans c0, ((bstep hW e2).cell (p := ⟨gr, 1, none⟩) hgl).trans c1, ((bstep hW e2).cell (p := ⟨gr, 2, none⟩) hgl).trans c2, bstep hW e2⟩⟩
          have HB3 : Bx (∀ W, Below wd.heap.size wd W → Below w.heap.size w W) := ⟨fun W hW => bstep HB2.1 hW⟩
          generalize chk1 ⟨kk, dd, vv⟩ (L.take k) = Y at HCC HST
          generalize wr.alloc (.cells #[.string kk, .bool dd, .slice ai ni ci] 48) = wa at hS0 ⊢
          clear hgr hba h1 h2 h3 hbl HBT HTK HBW HB2 hwd c0 c1 c2 hgl
          go_region_held3 (fun W => W.cell? ⟨gr, 0, none⟩ = some (.string kk) ∧ W.cell? ⟨gr, 1, none⟩ = some (.bool dd) ∧ W.cell? ⟨gr, 2, none⟩ = some (.slice ai ni ci) ∧ Below wd.heap.size wd W) (first | (exact hS0) | (exact hb6) | (assumption)) (first
            | (go_at_call 99; refine (HCC.out _ (by assumption)).mono ?_; rintro e6 w6 ⟨rfl, hb6⟩))
          rename_i hHeld
          have hbw6 := HB3.out _ hHeld.2.2.2
          clear hHeld HB3 HCC hS0
          by_cases hY : Y = 0
          · have HF : Bx (X = chkF (L.take (k + 1)) (L.drop (k + 1))) := ⟨by rw [HST.out, if_pos hY]⟩
            have g2 : (Y != 0) = false := by simp [hY]
            clear hY HST
            go_wp2_with fail
            go_roundw
            case rel => exact ⟨k + 1, by omega, by go_num, hbw6, HF⟩
            case measure => simp [intOf]; omega
          · have HF : Bx (X = Y) := ⟨by rw [HST.out, if_neg hY]⟩
            have g2 : (Y != 0) = true := by simp [hY]
            clear hY HST
            go_wp2_with fail
            go_ret
            exact ⟨ret_int HF.out.symm, hbw6⟩
        · have hkI : ¬ (k : Int) < (len : Int) := by omega
          have HX3 : Bx (X = 0) := ⟨by rw [HN.out, List.drop_eq_nil_of_le (by rw [HLEN.out]; omega)]; rfl⟩
          go_wp2_with fail
          go_ret
          exact ⟨ret_int HX3.out.symm, hbw⟩
set_option maxRecDepth 100000 in
theorem any_no {L : List Chg} {k : Nat} {kk : ByteArray} (hk : k ≤ L.length) (h : ∀ j (hj : j < L.length), j < k → L[j].key ≠ kk) : (L.take k).any (fun a => decide (a.key = kk)) = false := by
  refine List.any_eq_false.2 fun c hc => ?_
  obtain ⟨i, hi, e⟩ := List.getElem_of_mem hc
  rw [List.length_take] at hi
  rw [← e, List.getElem_take]
  simpa using h i (by omega) (by omega)
set_option maxRecDepth 100000 in
theorem any_yes {L : List Chg} {k j : Nat} {kk : ByteArray} (hj : j < L.length) (hk : j < k) (h : L[j].key = kk) : (L.take k).any (fun a => decide (a.key = kk)) = true :=
  List.any_eq_true.2 ⟨L[j], List.mem_take_iff_getElem.2 ⟨j, by omega, rfl⟩, by simpa using h⟩
set_option maxRecDepth 100000 in
set_option maxHeartbeats 2000000 in
theorem refcheck_any (B : Nat → Prop) (ao : Option Addr) (len cap : Nat) (L : List Chg) (w : World) (h : CT B w ao len cap L) (hks : ∀ c ∈ L, c.key.size ≤ 9223372036854775807) :
    Calls Tryz.prog 80 #[.slice ao len cap] w fun e w' => e = .returned (.int .i64 (chkL L)) ∧ Below w.heap.size w w' := by
  have HL : Bx (CT B w ao len cap L) := ⟨h⟩
  have HKS : Bx (∀ c ∈ L, c.key.size ≤ 9223372036854775807) := ⟨hks⟩
  have hlen : L.length = len := h.len_eq
  have HLEN : Bx (L.length = len) := ⟨hlen⟩
  have hcl := h.le_cap
  have hcm := h.cap_le
  unfold maxLen at hcm
  have HX : Bx (chkL L = if len < 1 ∨ 16 < len then 2 else chkF [] L) := ⟨by rw [← hlen]; rfl⟩
  generalize chkL L = X at HX ⊢
  clear hlen h hks
  by_cases h0 : len = 0
  · have HX2 : Bx (X = 2) := ⟨by rw [HX.out, if_pos (by omega)]⟩
    subst h0
    clear HX HL HLEN
    go_enter Tryz.func80, Tryz.ntmps80
    go_wp2_with fail
    go_ret
    exact ⟨ret_int HX2.out.symm, Below.refl _ _⟩
  · by_cases h16 : 16 < len
    · have HX2 : Bx (X = 2) := ⟨by rw [HX.out, if_pos (by omega)]⟩
      have g0 : decide ((len : Int) < 1) = false := by simp; omega
      have g1 : decide ((len : Int) > 16) = true := by simp; omega
      clear HX HL HLEN
      go_enter Tryz.func80, Tryz.ntmps80
      go_wp2_with fail
      go_ret
      exact ⟨ret_int HX2.out.symm, Below.refl _ _⟩
    · have HX2 : Bx (X = chkF (L.take 0) (L.drop 0)) := ⟨by rw [HX.out, if_neg (by omega)]; rfl⟩
      have g0 : decide ((len : Int) < 1) = false := by simp; omega
      have g1 : decide ((len : Int) > 16) = false := by simp; omega
      clear HX
      go_enter Tryz.func80, Tryz.ntmps80
      go_wp2_with fail
      go_loopw [3] (fun i wr => ∃ k : Nat, k ≤ len ∧ i = .int .i64 k ∧ Below w.heap.size w wr ∧ Bx (X = chkF (L.take k) (L.drop k))) (fun i _ => len - (intOf i).toNat)
      case atStart => exact ⟨0, Nat.zero_le _, rfl, Below.refl _ _, HX2⟩
      case round =>
        clear HX2
        obtain ⟨k, hk, rfl, hbw, HN⟩ := hrel
        by_cases hlt : k < len
        · have hkI : (k : Int) < (len : Int) := by omega
          have hkL : k < L.length := by rw [HLEN.out]; exact hlt
          have HST : Bx (X = if chk1 L[k] (L.take k) = 0 then chkF (L.take (k + 1)) (L.drop (k + 1)) else chk1 L[k] (L.take k)) := ⟨by rw [HN.out, chkF_step L k hkL]⟩
          have hLr := HL.out.below hbw
          obtain ⟨b, off, ai, ni, ci, rfl, hbl, _, h1, h2, h3, hbt, _⟩ := hLr.chg k hlt
          have hkey := HKS.out _ (List.getElem_mem hkL)
          have hnl : L[k].val.length = ni := hbt.len_eq
          have hmx := Nat.le_trans hbt.le_cap hbt.cap_le
          unfold maxLen at hmx
          have HCH : Bx (chk1 L[k] (L.take k) = if kOk L[k].key = false then 2 else if 4096 < ni then 5 else if L[k].del = true ∧ 0 < ni then 2 else if (L.take k).any (fun a => decide (a.key = L[k].key)) = true then 10 else 0) := ⟨by rw [← hnl]; rfl⟩
          have HTK : Bx (CT B wr (some ⟨b, off, none⟩) len cap L) := ⟨hLr⟩
          generalize chk1 L[k] (L.take k) = Y at HST HCH
          generalize L[k].key = kk at h1 hkey HCH
          generalize L[k].del = dd at h2 HCH
          obtain ⟨wo, hwo⟩ : ∃ wo, wo = wr := ⟨_, rfl⟩
          subst hwo
          clear hbt hLr HN hnl
          go_wp2_with fail
          refine (refkey_any kk _ hkey).mono ?_
          rintro e w2 ⟨rfl, rfl⟩
          cases hko : kOk kk with
          | false =>
            have HF : Bx (X = 2) := ⟨by rw [HST.out, HCH.out, if_pos hko]; rfl⟩
            clear HST HCH hko HTK
            go_wp2_with fail
            go_ret
            exact ⟨ret_int HF.out.symm, hbw⟩
          | true =>
            have HCH2 : Bx (Y = if 4096 < ni then 5 else if dd = true ∧ 0 < ni then 2 else if (L.take k).any (fun a => decide (a.key = kk)) = true then 10 else 0) := ⟨by rw [HCH.out, if_neg (by rw [hko]; decide)]⟩
            clear HCH hko
            by_cases h4 : 4096 < ni
            · have HF : Bx (X = 5) := ⟨by rw [HST.out, HCH2.out, if_pos h4]; rfl⟩
              have g4 : (4096 : Int) < (ni : Int) := by omega
              clear HST HCH2 HTK
              go_wp2_with fail
              go_ret
              exact ⟨ret_int HF.out.symm, hbw⟩
            · have HCH3 : Bx (Y = if dd = true ∧ 0 < ni then 2 else if (L.take k).any (fun a => decide (a.key = kk)) = true then 10 else 0) := ⟨by rw [HCH2.out, if_neg h4]⟩
              have g4 : ¬ (4096 : Int) < (ni : Int) := by omega
              clear HCH2
              by_cases h5 : dd = true ∧ 0 < ni
              · have HF : Bx (X = 2) := ⟨by rw [HST.out, HCH3.out, if_pos h5]; rfl⟩
                obtain ⟨rfl, h5⟩ := h5
                have g2 : decide ((ni : Int) > 0) = true := by simp; omega
                clear HST HCH3 HTK
                go_wp2_with fail
                go_ret
                exact ⟨ret_int HF.out.symm, hbw⟩
              · have HCH4 : Bx (Y = if (L.take k).any (fun a => decide (a.key = kk)) = true then 10 else 0) := ⟨by rw [HCH3.out, if_neg h5]⟩
                clear HCH3
                cases hdd : dd with
                | false =>
                  subst hdd
                  clear h5
                  go_wp2_with fail
                  go_loopw [4] (fun i wr => ∃ j : Nat, j ≤ k ∧ i = .int .i64 j ∧ Below wo.heap.size wo wr ∧ Bx (∀ m (hm : m < L.length), m < j → L[m].key ≠ kk)) (fun i _ => k - (intOf i).toNat)
                  case atStart => exact ⟨0, Nat.zero_le _, rfl, Below.refl _ _, ⟨fun m _ hm => by omega⟩⟩
                  case round =>
                    obtain ⟨j, hj, rfl, hbj, HM⟩ := hrel
                    by_cases hjk : j < k
                    · have hjI : (j : Int) < (k : Int) := by omega
                      have hjl : (j : Int) < (len : Int) := by omega
                      obtain ⟨b2, off2, aj, nj, cj, hbb, _, _, q1, _, _, _, _⟩ := (HTK.out.below hbj).chg j (by omega)
                      obtain ⟨rfl, rfl⟩ : b2 = b ∧ off2 = off := by cases hbb; exact ⟨rfl, rfl⟩
                      have h1j : wr.cell? ⟨b2, off2 + k * 3, none⟩ = some (.string kk) := (hbj.cell hbl).trans h1
                      have HK : Bx (∀ h : j < L.length, L[j].key = (L[j]'(by rw [HLEN.out]; omega)).key) := ⟨fun _ => rfl⟩
                      generalize hkj : (L[j]'(by rw [HLEN.out]; omega)).key = kj at q1 HK
                      clear hkj hbb
                      by_cases ek : kj = kk
                      · have HF : Bx (X = 10) := ⟨by rw [HST.out, HCH4.out, if_pos (any_yes (by rw [HLEN.out]; omega) hjk ((HK.out (by rw [HLEN.out]; omega)).trans ek))]; rfl⟩
                        have gk := str_eq ek
                        clear ek HST HCH4 HM HK
                        go_wp2_with fail
                        go_quiet (fail)
                        go_wp2_with fail
                        go_ret
                        exact ⟨ret_int HF.out.symm, below_drewN (bstep hbw hbj) nq⟩
                      · have HF : Bx (∀ m (hm : m < L.length), m < j + 1 → L[m].key ≠ kk) := ⟨fun m hm hmj => by
                          by_cases em : m = j
                          · subst em; rw [HK.out hm]; exact ek
                          · exact HM.out m hm (by omega)⟩
                        have gk := str_ne ek
                        clear ek HM HK
                        go_wp2_with fail
                        go_quiet (fail)
                        go_wp2_with fail
                        go_roundw
                        case rel => exact ⟨j + 1, by omega, by go_num, below_drewN hbj nq, HF⟩
                        case measure => simp [intOf]; omega
                    · have hjI : ¬ (j : Int) < (k : Int) := by omega
                      have HF : Bx (X = chkF (L.take (k + 1)) (L.drop (k + 1))) := ⟨by
                        have e0 : Y = 0 := by rw [HCH4.out, any_no (by rw [HLEN.out]; omega) (fun m hm hmk => HM.out m hm (by omega))]; rfl
                        rw [HST.out, if_pos e0]⟩
                      have hbk := bstep hbw hbj
                      clear HM HST HCH4
                      go_wp2_with fail
                      go_roundw
                      case rel => exact ⟨k + 1, by omega, by go_num, hbk, HF⟩
                      case measure => simp [intOf]; omega
                | true =>
                  subst hdd
                  have hz : ¬ 0 < ni := fun h => h5 ⟨rfl, h⟩
                  have g2 : decide ((ni : Int) > 0) = false := by simp; omega
                  have g3 : decide (0 < ni) = false := by simp; omega
                  clear h5
                  go_wp2_with fail
                  go_loopw [4] (fun i wr => ∃ j : Nat, j ≤ k ∧ i = .int .i64 j ∧ Below wo.heap.size wo wr ∧ Bx (∀ m (hm : m < L.length), m < j → L[m].key ≠ kk)) (fun i _ => k - (intOf i).toNat)
                  case atStart => exact ⟨0, Nat.zero_le _, rfl, Below.refl _ _, ⟨fun m _ hm => by omega⟩⟩
                  case round =>
                    obtain ⟨j, hj, rfl, hbj, HM⟩ := hrel
                    by_cases hjk : j < k
                    · have hjI : (j : Int) < (k : Int) := by omega
                      have hjl : (j : Int) < (len : Int) := by omega
                      obtain ⟨b2, off2, aj, nj, cj, hbb, _, _, q1, _, _, _, _⟩ := (HTK.out.below hbj).chg j (by omega)
                      obtain ⟨rfl, rfl⟩ : b2 = b ∧ off2 = off := by cases hbb; exact ⟨rfl, rfl⟩
                      have h1j : wr.cell? ⟨b2, off2 + k * 3, none⟩ = some (.string kk) := (hbj.cell hbl).trans h1
                      have HK : Bx (∀ h : j < L.length, L[j].key = (L[j]'(by rw [HLEN.out]; omega)).key) := ⟨fun _ => rfl⟩
                      generalize hkj : (L[j]'(by rw [HLEN.out]; omega)).key = kj at q1 HK
                      clear hkj hbb
                      by_cases ek : kj = kk
                      · have HF : Bx (X = 10) := ⟨by rw [HST.out, HCH4.out, if_pos (any_yes (by rw [HLEN.out]; omega) hjk ((HK.out (by rw [HLEN.out]; omega)).trans ek))]; rfl⟩
                        have gk := str_eq ek
                        clear ek HST HCH4 HM HK
                        go_wp2_with fail
                        go_quiet (fail)
                        go_wp2_with fail
                        go_ret
                        exact ⟨ret_int HF.out.symm, below_drewN (bstep hbw hbj) nq⟩
                      · have HF : Bx (∀ m (hm : m < L.length), m < j + 1 → L[m].key ≠ kk) := ⟨fun m hm hmj => by
                          by_cases em : m = j
                          · subst em; rw [HK.out hm]; exact ek
                          · exact HM.out m hm (by omega)⟩
                        have gk := str_ne ek
                        clear ek HM HK
                        go_wp2_with fail
                        go_quiet (fail)
                        go_wp2_with fail
                        go_roundw
                        case rel => exact ⟨j + 1, by omega, by go_num, below_drewN hbj nq, HF⟩
                        case measure => simp [intOf]; omega
                    · have hjI : ¬ (j : Int) < (k : Int) := by omega
                      have HF : Bx (X = chkF (L.take (k + 1)) (L.drop (k + 1))) := ⟨by
                        have e0 : Y = 0 := by rw [HCH4.out, any_no (by rw [HLEN.out]; omega) (fun m hm hmk => HM.out m hm (by omega))]; rfl
                        rw [HST.out, if_pos e0]⟩
                      have hbk := bstep hbw hbj
                      clear HM HST HCH4
                      go_wp2_with fail
                      go_roundw
                      case rel => exact ⟨k + 1, by omega, by go_num, hbk, HF⟩
                      case measure => simp [intOf]; omega
        · have hkI : ¬ (k : Int) < (len : Int) := by omega
          have HX3 : Bx (X = 0) := ⟨by rw [HN.out, List.drop_eq_nil_of_le (by rw [HLEN.out]; omega)]; rfl⟩
          go_wp2_with fail
          go_ret
          exact ⟨ret_int HX3.out.symm, hbw⟩
end Go.Proofs.YtjnjokbdoendkaaGreat
