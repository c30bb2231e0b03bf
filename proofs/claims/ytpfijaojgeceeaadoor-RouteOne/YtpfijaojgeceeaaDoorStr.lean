/- Texts as lists of bytes, bytes as texts. No walk. -/
import Derived.Test.YtpfijaojgeceeaaDoorCut
import Derived.Lib.Strings
import Derived.Laws.BitsAllLaws
import Derived.Laws.IdiomStrings
import Derived.Lib.SlicesS
namespace Go.Proofs.YtpfijaojgeceeaaDoor
open Go.RowKit
set_option linter.unusedVariables false

/-- the text that a list of bytes is -/
def strOf (l : List Int) : ByteArray := ⟨(l.map fun c => UInt8.ofNat c.toNat).toArray⟩
set_option maxRecDepth 100000 in
theorem strOf_inj : ∀ {l m : List Int}, Byt l → Byt m → strOf l = strOf m → l = m := by
  intro l m hl hm h
  have h1 : (l.map fun c => UInt8.ofNat c.toNat) = m.map fun c => UInt8.ofNat c.toNat := by
    have := congrArg ByteArray.data h
    simpa [strOf] using this
  have hlen : l.length = m.length := by have := congrArg List.length h1; simpa using this
  apply List.ext_getElem?
  intro i
  by_cases hi : i < l.length
  · have e := congrArg (·[i]?) h1
    simp only [List.getElem?_map, List.getElem?_eq_getElem hi, List.getElem?_eq_getElem (show i < m.length by omega), Option.map_some, Option.some.injEq] at e
    have b1 := hl _ (List.getElem_mem hi)
    have b2 := hm _ (List.getElem_mem (show i < m.length by omega))
    have e2 := congrArg UInt8.toNat e
    simp only [UInt8.toNat_ofNat'] at e2
    rw [List.getElem?_eq_getElem hi, List.getElem?_eq_getElem (show i < m.length by omega)]
    congr 1
    omega
  · rw [List.getElem?_eq_none (by omega), List.getElem?_eq_none (by omega)]
set_option maxRecDepth 100000 in
theorem fold_push : ∀ (l : List Int) (r : ByteArray), l.foldl (fun r n => r.push (UInt8.ofNat n.toNat)) r = ⟨r.data ++ (l.map fun c => UInt8.ofNat c.toNat).toArray⟩
  | [], r => by simp
  | b :: l, r => by rw [List.foldl_cons, fold_push l]; simp [ByteArray.push]
set_option maxRecDepth 100000 in
/-- 'string(b)' of bytes that read as a list -/
theorem Bts.str {w : World} {a : Option Addr} {len cap : Nat} {l : List Int} (h : Bts w a len cap l) : (convert 22 9 (.slice a len cap)).run Tryd.prog w = .ok (.string (strOf l)) w := by
  rw [run_convert_bytes_string w _ _ 5 a len cap Tryd.underlying22 Tryd.underlying5 Tryd.underlying9]
  cases a with
  | none =>
    have h1 := h.nil rfl
    have h2 := h.le_cap
    have h3 := h.len_eq
    obtain rfl : l = [] := List.eq_nil_of_length_eq_zero (by omega)
    rfl
  | some ad =>
    have hl := run_loadCells_list (P := Tryd.prog) w ad (bv l) h.cells
    rw [bv_length, h.len_eq] at hl
    rw [run_bytesToString w ad len cap l hl, fold_push]
    have he0 : ByteArray.empty.data = #[] := rfl
    rw [he0]
    simp [strOf]
/-- a text's bytes -/
def strL (s : ByteArray) : List Int := s.data.toList.map (fun b => (b.toNat : Int))
set_option maxRecDepth 100000 in
theorem strL_length (s : ByteArray) : (strL s).length = s.size := by rw [strL, List.length_map]; rfl
set_option maxRecDepth 100000 in
theorem strL_byt (s : ByteArray) : Byt (strL s) := by
  intro c hc
  obtain ⟨b, _, rfl⟩ := List.mem_map.1 hc
  have := b.toNat_lt
  omega
set_option maxRecDepth 100000 in
theorem strOf_strL (s : ByteArray) : strOf (strL s) = s := by
  obtain ⟨d⟩ := s
  simp only [strOf, strL, List.map_map, ByteArray.mk.injEq]
  have e : ((fun c : Int => UInt8.ofNat c.toNat) ∘ fun b : UInt8 => (b.toNat : Int)) = id := by
    funext b
    simp
  rw [e]; simp
set_option maxRecDepth 100000 in
theorem strL_inj {s t : ByteArray} (h : strL s = strL t) : s = t := by rw [← strOf_strL s, h, strOf_strL]
set_option maxRecDepth 100000 in
theorem strOf_size (l : List Int) : (strOf l).size = l.length := by simp [strOf, ByteArray.size]
set_option maxRecDepth 100000 in
theorem strL_strOf {l : List Int} (h : Byt l) : strL (strOf l) = l := strOf_inj (strL_byt _) h (strOf_strL _)
set_option maxRecDepth 100000 in
theorem strL_len (s : ByteArray) : (strL s).length = s.size := by simp [strL]
set_option maxRecDepth 100000 in
theorem strL_getD (s : ByteArray) (j : Nat) (hj : j < s.size) : (strL s).getD j 0 = ((s.data.toList.getD j 0).toNat : Int) := by
  have h : j < s.data.toList.length := by simpa using hj
  simp only [strL, List.getD_eq_getElem?_getD, List.getElem?_map, List.getElem?_eq_getElem h, Option.map_some, Option.getD_some]
set_option maxRecDepth 100000 in
theorem strOf_append (a b : List Int) : strOf (a ++ b) = strOf a ++ strOf b := by
  rw [← Lib.mk_data (strOf a ++ strOf b), ← Lib.mk_data (strOf (a ++ b))]; simp [strOf]
end Go.Proofs.YtpfijaojgeceeaaDoor
