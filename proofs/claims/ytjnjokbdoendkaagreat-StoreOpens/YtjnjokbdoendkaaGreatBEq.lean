/- bytes as a text, and bytes.Equal. -/
import Derived.Test.YtjnjokbdoendkaaGreatSma
import Derived.Lib.Strings
import Derived.Laws.BitsAllLaws
import Derived.Laws.IdiomStrings
import Derived.Lib.SlicesS
namespace Go.Proofs.YtjnjokbdoendkaaGreat
open Go.RowKit
set_option linter.unusedVariables false

/-- the text that a list of bytes is -/
def strOf (l : List Int) : ByteArray := ⟨(l.map fun c => UInt8.ofNat c.toNat).toArray⟩
set_option maxRecDepth 100000 in
theorem strOf_inj : ∀ {l m : List Int}, Byt l → Byt m → strOf l = strOf m → l = m := by
  intro l m hl hm h
  have h1 : (l.map fun c => UInt8.ofNat c.toNat) = m.map fun c => UInt8.ofNat c.toNat := by
    have := congrArg ByteArray.data h
    simpa [strOf] using this
  have hlen : l.length = m.length := by have := congrArg List.length h1; simpa using this
  apply List.ext_getElem?
  intro i
  by_cases hi : i < l.length
  · have e := congrArg (·[i]?) h1
    simp only [List.getElem?_map, List.getElem?_eq_getElem hi, List.getElem?_eq_getElem (show i < m.length by omega), Option.map_some, Option.some.injEq] at e
    have b1 := hl _ (List.getElem_mem hi)
    have b2 := hm _ (List.getElem_mem (show i < m.length by omega))
    have e2 := congrArg UInt8.toNat e
    simp only [UInt8.toNat_ofNat'] at e2
    rw [List.getElem?_eq_getElem hi, List.getElem?_eq_getElem (show i < m.length by omega)]
    congr 1
    omega
  · rw [List.getElem?_eq_none (by omega), List.getElem?_eq_none (by omega)]
set_option maxRecDepth 100000 in
theorem fold_push : ∀ (l : List Int) (r : ByteArray), l.foldl (fun r n => r.push (UInt8.ofNat n.toNat)) r = ⟨r.data ++ (l.map fun c => UInt8.ofNat c.toNat).toArray⟩
  | [], r => by simp
  | b :: l, r => by rw [List.foldl_cons, fold_push l]; simp [ByteArray.push]
set_option maxRecDepth 100000 in
/-- 'string(b)' of bytes that read as a list -/
theorem Bts.str {w : World} {a : Option Addr} {len cap : Nat} {l : List Int} (h : Bts w a len cap l) : (convert 46 9 (.slice a len cap)).run Tryz.prog w = .ok (.string (strOf l)) w := by
  rw [run_convert_bytes_string w _ _ 5 a len cap Tryz.underlying46 Tryz.underlying5 Tryz.underlying9]
  cases a with
  | none =>
    have h1 := h.nil rfl
    have h2 := h.le_cap
    have h3 := h.len_eq
    obtain rfl : l = [] := List.eq_nil_of_length_eq_zero (by omega)
    rfl
  | some ad =>
    have hl := run_loadCells_list (P := Tryz.prog) w ad (bv l) h.cells
    rw [bv_length, h.len_eq] at hl
    rw [run_bytesToString w ad len cap l hl, fold_push]
    have he0 : ByteArray.empty.data = #[] := rfl
    rw [he0]
    simp [strOf]
set_option maxRecDepth 100000 in
theorem beq_any (a b : Option Addr) (n m c d : Nat) (la lb : List Int) (w : World) (ha : Bts w a n c la) (hb : Bts w b m d lb) :
    Calls Tryz.prog 139 #[.slice a n c, .slice b m d] w fun e w' => e = .returned (.bool (decide (la = lb))) ∧ w = w' := by
  have h1 := ha.str
  have h2 := hb.str
  have HQ : Hid (((strOf la).toList == (strOf lb).toList) = decide (la = lb)) := by
    show _ = _
    by_cases h : la = lb
    · rw [decide_eq_true h]
      exact (Lib.bytes_beq_iff _ _).2 (by rw [h])
    · rw [decide_eq_false h]
      exact (Lib.bytes_beq_false_iff _ _).2 (fun e => h (strOf_inj ha.byt hb.byt e))
  clear ha hb
  generalize strOf la = sa at h1 HQ
  generalize strOf lb = sb at h2 HQ
  go_enter Tryz.func139, Tryz.ntmps139
  go_wp2
  go_ret
  exact ⟨ret_bool HQ.out, rfl⟩
end Go.Proofs.YtjnjokbdoendkaaGreat
