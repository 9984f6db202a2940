import PyProof.Rows.All
import Wide.All
import OpenK.AllK
import Wide.FinOn
import HandS.ForMost
import HandS.StrMore
import HandS.IsInst
import HandS.Codes
import HandS.Flow
import HandS.More
import HandS.Walk
import PySem.Challenge.RW_livequill_k02_faults_of_tokens
set_option Elab.async false
set_option linter.all false
set_option maxRecDepth 100000
namespace Lx
/-! ### the signs -/
def isLet (c : Nat) : Bool := (decide (65 ≤ c) && decide (c ≤ 90)) || (decide (97 ≤ c) && decide (c ≤ 122)) || decide (c = 95)
def isDig (c : Nat) : Bool := decide (48 ≤ c) && decide (c ≤ 57)
def isWc (c : Nat) : Bool := isLet c || isDig c
def isChr (c : Nat) : Bool := decide (c = 10) || (decide (32 ≤ c) && decide (c ≤ 126) && !decide (c = 37))
/-! ### gaps: how many signs are skipped -/
def gapm : Bool → List Nat → Nat
  | _, [] => 0
  | true, c :: r => gapm (!decide (c = 10)) r + 1
  | false, c :: r => if c = 32 ∨ c = 10 then gapm false r + 1 else if c = 47 ∧ r.head? = some 47 then gapm true r + 1 else 0
abbrev gap : List Nat → Nat := gapm false
def line : List Nat → Nat
  | [] => 0
  | c :: r => if c = 10 then 0 else line r + 1
theorem line_le : ∀ r, line r ≤ r.length
  | [] => Nat.le_refl _
  | c :: r => by
    unfold line
    split
    · exact Nat.zero_le _
    · exact Nat.succ_le_succ (line_le r)
theorem gap_comment : ∀ r, gapm true r = gap (r.drop (line r)) + line r
  | [] => rfl
  | c :: r => by
    by_cases h : c = 10
    · subst h
      rfl
    · have e : line (c :: r) = line r + 1 := by
        show (if c = 10 then 0 else line r + 1) = _
        rw [if_neg h]
      rw [e, List.drop_succ_cons]
      show gapm (!decide (c = 10)) r + 1 = _
      rw [decide_eq_false h]
      show gapm true r + 1 = _
      rw [gap_comment r]
      omega
theorem gap_le : ∀ (b : Bool) (r : List Nat), gapm b r ≤ r.length
  | _, [] => by simp [gapm]
  | true, c :: r => by
    have := gap_le (!decide (c = 10)) r
    show gapm (!decide (c = 10)) r + 1 ≤ r.length + 1
    omega
  | false, c :: r => by
    have h1 := gap_le false r
    have h2 := gap_le true r
    show (if c = 32 ∨ c = 10 then gapm false r + 1 else if c = 47 ∧ r.head? = some 47 then gapm true r + 1 else 0) ≤ r.length + 1
    split
    · omega
    · split
      · omega
      · omega
theorem gap_blank {c : Nat} (r : List Nat) (h : c = 32 ∨ c = 10) : gap (c :: r) = gap r + 1 := by
  show (if c = 32 ∨ c = 10 then gapm false r + 1 else if c = 47 ∧ r.head? = some 47 then gapm true r + 1 else 0) = _
  rw [if_pos h]
theorem gap_slash {c : Nat} (r : List Nat) (h : ¬ (c = 32 ∨ c = 10)) (h2 : c = 47 ∧ r.head? = some 47) : gap (c :: r) = gap ((c :: r).drop (line (c :: r))) + line (c :: r) := by
  have hc : ¬ c = 10 := fun z => h (.inr z)
  have e : line (c :: r) = line r + 1 := by
    show (if c = 10 then 0 else line r + 1) = _
    rw [if_neg hc]
  have e2 : gap (c :: r) = gapm true r + 1 := by
    show (if c = 32 ∨ c = 10 then gapm false r + 1 else if c = 47 ∧ r.head? = some 47 then gapm true r + 1 else 0) = _
    rw [if_neg h, if_pos h2]
  rw [e2, e, gap_comment, List.drop_succ_cons]
  omega
theorem gap_stop {c : Nat} (r : List Nat) (h : ¬ (c = 32 ∨ c = 10)) (h2 : ¬ (c = 47 ∧ r.head? = some 47)) : gap (c :: r) = 0 := by
  show (if c = 32 ∨ c = 10 then gapm false r + 1 else if c = 47 ∧ r.head? = some 47 then gapm true r + 1 else 0) = _
  rw [if_neg h, if_neg h2]
/-! ### runs -/
def run (p : Nat → Bool) : List Nat → Nat
  | [] => 0
  | c :: r => if p c = true then run p r + 1 else 0
theorem run_le (p : Nat → Bool) : ∀ r, run p r ≤ r.length
  | [] => Nat.le_refl _
  | c :: r => by
    unfold run
    split
    · exact Nat.succ_le_succ (run_le p r)
    · exact Nat.zero_le _
theorem run_app (p : Nat → Bool) : ∀ (m r : List Nat), (∀ c ∈ m, p c = true) → (∀ d, r.head? = some d → p d = false) → run p (m ++ r) = m.length
  | [], r, _, h => by
    cases r with
    | nil => rfl
    | cons d r =>
      show (if p d = true then run p r + 1 else 0) = 0
      rw [h d rfl]
      rfl
  | c :: m, r, hm, h => by
    show (if p c = true then run p (m ++ r) + 1 else 0) = m.length + 1
    rw [hm c (List.mem_cons_self ..), if_pos rfl, run_app p m r (fun d hd => hm d (List.mem_cons_of_mem _ hd)) h]
/-! ### a text in quotation marks -/
inductive Res where
  | ok (v : List Nat) (at_ : Nat)
  | bad (at_ : Nat) (why : Nat)
/-- why: 0 the text does not end, 1 the escape is not known, 2 not allowed -/
def scanT (start : Nat) : Nat → List Nat → List Nat → Res
  | _, _, [] => .bad start 0
  | a, acc, c :: r =>
    if c = 34 then .ok acc (a + 1)
    else if c = 10 then .bad start 0
    else if c = 92 then
      match r with
      | [] => .bad start 0
      | d :: r2 => if d = 110 then scanT start (a + 2) (acc ++ [10]) r2 else if d = 34 ∨ d = 92 then scanT start (a + 2) (acc ++ [d]) r2 else .bad a 1
    else if isChr c = true then scanT start (a + 1) (acc ++ [c]) r
    else .bad a 2
def spell (c : Nat) : List Nat := if c = 10 then [92, 110] else if c = 34 ∨ c = 92 then [92, c] else [c]
def spelled (t : List Nat) : List Nat := (t.map spell).flatten
theorem scan_spelled (start : Nat) (r : List Nat) : ∀ (t : List Nat) (a : Nat) (acc : List Nat), (∀ c ∈ t, isChr c = true) → scanT start a acc (spelled t ++ 34 :: r) = .ok (acc ++ t) (a + (spelled t).length + 1)
  | [], a, acc, _ => by
    have e : scanT start a acc (34 :: r) = .ok acc (a + 1) := by
      rw [scanT.eq_def]
      simp
    rw [List.append_nil]
    exact e
  | c :: t, a, acc, h => by
    have ih := fun a acc => scan_spelled start r t a acc fun d hd => h d (List.mem_cons_of_mem _ hd)
    have hc := h c (List.mem_cons_self ..)
    have es : spelled (c :: t) = spell c ++ spelled t := rfl
    rw [es]
    unfold spell
    by_cases h10 : c = 10
    · rw [if_pos h10]
      subst h10
      show scanT start (a + 2) (acc ++ [10]) (spelled t ++ 34 :: r) = _
      rw [ih]
      simp
      omega
    · rw [if_neg h10]
      by_cases hq : c = 34 ∨ c = 92
      · rw [if_pos hq]
        have hn : ¬ c = 110 := by omega
        show (if c = 110 then scanT start (a + 2) (acc ++ [10]) (spelled t ++ 34 :: r) else if c = 34 ∨ c = 92 then scanT start (a + 2) (acc ++ [c]) (spelled t ++ 34 :: r) else .bad a 1) = _
        rw [if_neg hn, if_pos hq, ih]
        simp
        omega
      · rw [if_neg hq]
        have h34 : ¬ c = 34 := fun z => hq (.inl z)
        have h92 : ¬ c = 92 := fun z => hq (.inr z)
        have e : scanT start a acc (c :: (spelled t ++ 34 :: r)) = scanT start (a + 1) (acc ++ [c]) (spelled t ++ 34 :: r) := by
          rw [scanT.eq_def]
          simp only [h34, h10, h92, hc, if_false, if_true]
        show scanT start a acc (c :: (spelled t ++ 34 :: r)) = _
        rw [e, ih]
        simp
        omega
end Lx
/-! ### the bridge: what texts' methods come to -/
namespace My
open PySem L2 SX
open C8 (pss_cut tCut cutS_slice pe_gc)
theorem at_ofN {α : Type} {xs : List α} {z : Int} {j : Nat} {v : α} (e : z = (j : Int)) (h : xs[j]? = some v) : atI xs z = some v := by
  rw [e]
  exact atI_nat h
theorem same_upd {H : Hp} {p : Addr} {o : HO} (h : H p = none) : Same H (upd H p o) := fun b x e => by
  rw [upd_ne (ne_of_none e h)]
  exact e
theorem cut2 (l : List Nat) (i j : Nat) (hi : i ≤ j) : cutS (S l) (some (i : Int)) (some (j : Int)) = S ((l.drop i).take (j - i)) := by
  have e1 : HT.sIx (S l).length 0 (some (i : Int)) = min i l.length := by
    rw [HT.sIx_nat, S_len]
  have e2 : HT.sIx (S l).length (S l).length (some (j : Int)) = min j l.length := by
    rw [HT.sIx_nat, S_len]
  unfold cutS
  rw [e1, e2]
  show S ((l.drop (min i l.length)).take (min j l.length - min i l.length)) = _
  by_cases h : j ≤ l.length
  · rw [Nat.min_eq_left h, Nat.min_eq_left (by omega)]
  · by_cases h2 : i ≤ l.length
    · rw [Nat.min_eq_right (by omega), Nat.min_eq_left h2, List.take_of_length_le (by rw [List.length_drop]; omega), List.take_of_length_le (by rw [List.length_drop]; omega)]
    · rw [Nat.min_eq_right (by omega), Nat.min_eq_right (by omega), List.drop_eq_nil_of_le (Nat.le_refl _), List.drop_eq_nil_of_le (by omega)]
      simp
theorem cutA (l : List Nat) (a : Nat) : cutS (S l) (some (a : Int)) (some ((a : Int) + 1)) = S ((l.drop a).take 1) := by
  rw [show (a : Int) + 1 = ((a + 1 : Nat) : Int) by omega, cut2 l a (a + 1) (by omega), Nat.add_sub_cancel_left]
theorem cutA2 (l : List Nat) (a : Nat) : cutS (S l) (some ((a : Int) + 1)) (some ((a : Int) + 2)) = S ((l.drop (a + 1)).take 1) := by
  rw [show (a : Int) + 1 = ((a + 1 : Nat) : Int) by omega, show (a : Int) + 2 = ((a + 2 : Nat) : Int) by omega, cut2 l (a + 1) (a + 2) (by omega), show a + 2 - (a + 1) = 1 by omega]
theorem cutA3 (l : List Nat) (a : Nat) : cutS (S l) (some (a : Int)) (some ((a : Int) + 2)) = S ((l.drop a).take 2) := by
  rw [show (a : Int) + 2 = ((a + 2 : Nat) : Int) by omega, cut2 l a (a + 2) (by omega), Nat.add_sub_cancel_left]
theorem inV_codes (x : List Nat) (ls : List (List Nat)) : inV (.str (S x)) (ls.map fun l => V.str (S l)) = decide (x ∈ ls) := by
  unfold inV
  rw [Bool.eq_iff_iff, List.any_eq_true, decide_eq_true_eq]
  constructor
  · rintro ⟨v, hv, e⟩
    obtain ⟨l, hl, rfl⟩ := List.mem_map.mp hv
    have e2 : (S l == S x) = true := e
    rw [S_inj (eq_of_beq e2)] at hl
    exact hl
  · intro h
    exact ⟨_, List.mem_map.mpr ⟨x, h, rfl⟩, (beq_self_eq_true (S x) : (S x == S x) = true)⟩
theorem atS (l : List Nat) (a c : Nat) (h : l[a]? = some c) : atI (S l).cps.toList (a : Int) = some c := at_ofN (j := a) rfl h
theorem drop_cons {l : List Nat} {a : Nat} (h : a < l.length) : l.drop a = l[a] :: l.drop (a + 1) := List.drop_eq_getElem_cons h
theorem drop_at {l r : List Nat} {a c : Nat} (h : l.drop a = c :: r) : a < l.length ∧ l[a]? = some c ∧ l.drop (a + 1) = r := by
  have hl : a < l.length := by
    by_cases q : a < l.length
    · exact q
    · rw [List.drop_eq_nil_of_le (by omega)] at h
      cases h
  have e := drop_cons hl
  rw [e] at h
  injection h with h1 h2
  exact ⟨hl, by rw [List.getElem?_eq_getElem hl, h1], h2⟩
theorem drop_nil {l : List Nat} {a : Nat} (h : l.drop a = []) : l.length ≤ a := by
  by_cases q : l.length ≤ a
  · exact q
  · rw [drop_cons (by omega)] at h
    cases h
theorem line_eq : ∀ (r : List Nat) (k : Nat), r[k]? = some 10 → (∀ v : Nat, v < k → r[v]? ≠ some 10) → Lx.line r = k
  | [], k, h, _ => by simp at h
  | c :: r, 0, h, _ => by
    have e : c = 10 := by simpa using h
    show (if c = 10 then 0 else Lx.line r + 1) = 0
    rw [if_pos e]
  | c :: r, k + 1, h, hn => by
    have e : ¬ c = 10 := fun z => hn 0 (by omega) (by simp [z])
    show (if c = 10 then 0 else Lx.line r + 1) = k + 1
    rw [if_neg e, line_eq r k (by simpa using h) (fun v hv z => hn (v + 1) (by omega) (by simpa using z))]
theorem line_none : ∀ (r : List Nat), (∀ v : Nat, r[v]? ≠ some 10) → Lx.line r = r.length
  | [], _ => rfl
  | c :: r, hn => by
    have e : ¬ c = 10 := fun z => hn 0 (by simp [z])
    show (if c = 10 then 0 else Lx.line r + 1) = r.length + 1
    rw [if_neg e, line_none r (fun v z => hn (v + 1) (by simpa using z))]
theorem find_line (l : List Nat) (a : Nat) (ha : a ≤ l.length) : (Txt.find3 (S l) (S [10]) (a : Int) < 0 ∧ a + Lx.line (l.drop a) = l.length) ∨ (¬ Txt.find3 (S l) (S [10]) (a : Int) < 0 ∧ Txt.find3 (S l) (S [10]) (a : Int) = ((a + Lx.line (l.drop a) : Nat) : Int)) := by
  have hf : fromIndex (S l).length (a : Int) = a := by
    unfold fromIndex
    rw [if_neg (by omega)]
    omega
  have hL : (S l).length = l.length := S_len l
  have hg : ∀ v, v < l.length → ((S l).cps.getD v 0 = 10 ↔ l[v]? = some 10) := fun v hv => ⟨fun h => StrLaws.getElem?_of_getD (x := S l) (by omega) h, fun h => StrLaws.getD_of_getElem? (x := S l) h⟩
  rcases StrLaws.find3_spec (S l) 10 (a : Int) with ⟨e, h⟩ | ⟨k, e, h1, h2, h3, h4⟩
  · rw [hf] at h
    refine .inl ⟨by rw [e]; decide, ?_⟩
    rw [line_none, List.length_drop]
    · omega
    · intro v z
      rw [List.getElem?_drop] at z
      have hv := (List.getElem?_eq_some_iff.mp z).1
      exact h (a + v) (by omega) (by omega) ((hg _ hv).mpr z)
  · rw [hf] at h1 h4
    have hk : k < l.length := by omega
    have el : Lx.line (l.drop a) = k - a := by
      refine line_eq _ _ ?_ fun v hv z => ?_
      · rw [List.getElem?_drop, show a + (k - a) = k by omega]
        exact (hg k hk).mp h3
      · rw [List.getElem?_drop] at z
        have hv2 := (List.getElem?_eq_some_iff.mp z).1
        exact h4 (a + v) (by omega) (by omega) ((hg _ hv2).mpr z)
    refine .inr ⟨by rw [e]; omega, ?_⟩
    rw [e, el]
    omega
theorem starts2 (l : List Nat) (a : Nat) (ha : a ≤ l.length) : Txt.startswith3 (S l) (S [47, 47]) (a : Int) = ((l.drop a).take 2 == [47, 47]) := by
  have hf : fromIndex (S l).length (a : Int) = a := by
    unfold fromIndex
    rw [if_neg (by omega)]
    omega
  have hL : (S l).length = l.length := S_len l
  unfold Txt.startswith3
  rw [hf, hL]
  show (decide (a + 2 ≤ l.length) && ((S l).cps.extract a (a + 2) == (S [47, 47]).cps)) = _
  have e2 : ((S l).cps.extract a (a + 2) == (S [47, 47]).cps) = ((l.drop a).take 2 == [47, 47]) := by
    rw [Bool.eq_iff_iff, beq_iff_eq, beq_iff_eq, ← Array.toList_inj]
    simp
  rw [e2]
  cases h : ((l.drop a).take 2 == [47, 47])
  · simp
  · have := congrArg List.length (eq_of_beq h)
    rw [List.length_take, List.length_drop] at this
    have h3 : a + 2 ≤ l.length := by
      have : min 2 (l.length - a) = 2 := this
      omega
    simp [h3]
theorem drop_while (p : Nat → Bool) (l : List Nat) : l.drop (l.takeWhile p).length = l.dropWhile p := by
  have e := List.takeWhile_append_dropWhile (p := p) (l := l)
  have e2 : l.drop (l.takeWhile p).length = (l.takeWhile p ++ l.dropWhile p).drop (l.takeWhile p).length := by rw [e]
  rw [e2, List.drop_left]
theorem strip0 (l : List Nat) : Txt.lstripChars (S l) (S [48]) = S (l.dropWhile (· == 48)) := by
  unfold Txt.lstripChars
  rw [PyProof.Rows.stripBy_eq]
  refine TL.ext_tl ?_
  have e1 : stripHi (S [48]).cps.contains false (S l) (stripLo (S [48]).cps.contains true (S l)) = (S l).length := rfl
  rw [e1, TL.tl_strSub_end]
  show l.drop (l.takeWhile (S [48]).cps.contains).length = l.dropWhile (· == 48)
  rw [drop_while]
  congr 1
  funext c
  simp
  rfl
end My
/-! ### the program's def -/
namespace My
open PySem L2 SX
open C8 (pss_cut tCut cutS_slice pe_gc)
def top (i : Nat) : Stmt := PySem.Challenge.pw_livequill_k02_faults_of_tokens.main.body.getD i (.Pass ⟨0, 0, 0, 0⟩)
local macro_rules | `(tactic| walk_at "sz") => `(tactic| first | assumption | (simp only [S_len, List.length_append, List.length_cons, List.length_nil] <;> omega))
/-- the names of built-ins that are still the built-ins -/
structure Bl (mg : Str → Option Value) : Prop where
  range : mg "range" = none
  len : mg "len" = none
  int : mg "int" = none
  str : mg "str" = none
  ord : mg "ord" = none
  isinstance : mg "isinstance" = none
  list : mg "list" = none
  tuple : mg "tuple" = none
  bool : mg "bool" = none
def letC : List Nat := [65, 66, 67, 68, 69, 70, 71, 72, 73, 74, 75, 76, 77, 78, 79, 80, 81, 82, 83, 84, 85, 86, 87, 88, 89, 90, 97, 98, 99, 100, 101, 102, 103, 104, 105, 106, 107, 108, 109, 110, 111, 112, 113, 114, 115, 116, 117, 118, 119, 120, 121, 122, 95]
def digC : List Nat := [48, 49, 50, 51, 52, 53, 54, 55, 56, 57]
def shortC : List Nat := [40, 41, 91, 93, 123, 125, 44, 59, 58, 46, 61, 60, 62, 43, 45, 42, 47]
def wordsV : List V := [.str "let", .str "fun", .str "class", .str "extends", .str "if", .str "else", .str "while", .str "for", .str "in", .str "break", .str "continue", .str "return", .str "throw", .str "try", .str "catch", .str "and", .str "or", .str "not", .str "is", .str "mod", .str "true", .str "false", .str "null", .str "this", .str "super"]
def longV : List V := [.str "==", .str "!=", .str "<=", .str ">="]
def notAllowed : Str := "this character is not allowed"
/-- what the text ESCAPES gives for a sign -/
def esc (c : Nat) : Option Nat := if c = 110 then some 10 else if c = 34 then some 34 else if c = 92 then some 92 else none
theorem in_let (c : Nat) : decide (c ∈ letC) = Lx.isLet c := by
  by_cases h : c < 128
  · exact (by decide +kernel : ∀ c, c < 128 → decide (c ∈ letC) = Lx.isLet c) c h
  · have h1 : ¬ c ∈ letC := fun z => absurd ((by decide +kernel : ∀ d ∈ letC, d < 128) c z) h
    rw [decide_eq_false h1]
    unfold Lx.isLet
    simp
    omega
theorem in_dig (c : Nat) : decide (c ∈ digC) = Lx.isDig c := by
  by_cases h : c < 128
  · exact (by decide +kernel : ∀ c, c < 128 → decide (c ∈ digC) = Lx.isDig c) c h
  · have h1 : ¬ c ∈ digC := fun z => absurd ((by decide +kernel : ∀ d ∈ digC, d < 128) c z) h
    rw [decide_eq_false h1]
    unfold Lx.isDig
    simp
    omega
theorem in_wc (c : Nat) : decide (c ∈ letC ++ digC) = Lx.isWc c := by
  have e : decide (c ∈ letC ++ digC) = (decide (c ∈ letC) || decide (c ∈ digC)) := by
    rw [Bool.eq_iff_iff]
    simp
  rw [e, in_let, in_dig]
  rfl
/-- what the walk asks of the top -/
structure Tx (K : PySem.W.Frag) (w : World) (mg : Str → Option Value) (wA lA eA : Addr) : Prop where
  gLETTERS : ∃ u, mg "LETTERS" = some u ∧ RelV (.str (S letC)) u
  gDIGITS : ∃ u, mg "DIGITS" = some u ∧ RelV (.str (S digC)) u
  gSHORT_SIGNS : ∃ u, mg "SHORT_SIGNS" = some u ∧ RelV (.str (S shortC)) u
  gMOST_DIGITS : ∃ u, mg "MOST_DIGITS" = some u ∧ RelV (.int 300) u
  gPERCENT : ∃ u, mg "PERCENT" = some u ∧ RelV (.int 37) u
  gNOT_ALLOWED : ∃ u, mg "NOT_ALLOWED" = some u ∧ RelV (.str notAllowed) u
  gWORDS : ∃ u, mg "WORDS" = some u ∧ RelV (.ref wA) u
  gLONG_SIGNS : ∃ u, mg "LONG_SIGNS" = some u ∧ RelV (.ref lA) u
  gESCAPES : ∃ u, mg "ESCAPES" = some u ∧ RelV (.ref eA) u
  tW : ∀ H, SqT K H wA wordsV
  tL : ∀ H, SqT K H lA longV
  dE : ∃ es n, KDict K w eA es n
  nE : ∀ c, ∃ r, PySem.W.nsIn K eA (S [c]) = some r ∧ (∀ d, esc c = some d → ∃ u, r = some u ∧ RelV (.str (S [d])) u) ∧ (esc c = none → r = none)
section
variable {P : Program} {w : World} {K : PySem.W.Frag} {mg : Str → Option Value} {base : Heap} {wA lA eA : Addr}
/-! ### comment_end -/
abbrev sCommentEnd : Stmt := top 12
theorem scCommentEnd : FnScope ["text", "at", "newline"] ["text", "at"] (defScope sCommentEnd) := ⟨rfl, rfl, rfl, by decide +kernel, rfl, by decide +kernel, by decide +kernel⟩
def spCommentEnd : Sp := fun vs H Q _ => ∃ (l : List Nat) (a : Nat), vs = [.str (S l), .int (a : Int)] ∧ a ≤ l.length ∧ l.length ≤ 1000000 ∧ Q (.int ((a + Lx.line (l.drop a) : Nat) : Int)) H
theorem okCommentEnd {f : Addr} {fd : FuncData} (F : Fun K "comment_end" "comment_end" sCommentEnd f fd) (B : Bl mg) : FnOk P w K mg base CX0 1 f fd ["text", "at"] spCommentEnd := by
  refine F.ok scCommentEnd (fun vs H Q E h => ?_) (fun cdv A outer s H vs Q E hr h => ?_)
  · obtain ⟨l, a, rfl, _⟩ := h
    rfl
  · obtain ⟨l, a, rfl, ha, hl, q⟩ := h
    have hz := sizeLine_eq
    refine ⟨_, pss_cons (ps_set (i := 2) scCommentEnd.nd rfl (.inl rfl) (pe_bm PySem.F.plainAttrs_str PySem.F.slot_str_find PySem.F.type_str_find mt_find3 (pv 0) (pa_cons pe_str (pa_cons (pv 1) pa_nil))))
      (pss_one (ps_ret (pe_ifExp (pt_cmpR op_lt (pv 2) pe_int (nomark _)) (pe_callB call_len_str (by rfl) B.len PySem.boot_len (pa_cons (pv 0) pa_nil)) (pv 2)))), ?_⟩
    refine ⟨_, rfl, rfl, _, rfl, _, _, _, rfl, rfl, ?_⟩
    have e10 : (("\n" : Str)) = S [10] := by decide +kernel
    rcases find_line l a ha with ⟨h1, h2⟩ | ⟨h1, h2⟩
    · refine ⟨_, rfl, _, _, rfl, rfl, _, rfl, ite2 (fun e => ⟨_, rfl, S l, rfl, (by walk_at "sz"), ?_⟩) (fun e => ?_)⟩
      · rw [S_len, ← h2]
        exact q
      · exact absurd (decide_eq_true (by rw [e10]; exact h1)) e
    · refine ⟨_, rfl, _, _, rfl, rfl, _, rfl, ite2 (fun e => ?_) (fun e => ⟨_, rfl, ?_⟩)⟩
      · exact absurd (of_decide_eq_true e) (by rw [e10]; exact h1)
      · rw [e10, h2]
        exact q
/-! ### gaps_end -/
abbrev sGapsEnd : Stmt := top 11
theorem scGapsEnd : FnScope ["text", "at"] ["text", "at"] (defScope sGapsEnd) := ⟨rfl, rfl, rfl, by decide +kernel, rfl, by decide +kernel, by decide +kernel⟩
def spGapsEnd : Sp := fun vs H Q _ => ∃ (l : List Nat) (a : Nat), vs = [.str (S l), .int (a : Int)] ∧ a ≤ l.length ∧ l.length ≤ 1000000 ∧ Q (.int ((a + Lx.gap (l.drop a) : Nat) : Int)) H
theorem okGapsEnd {f fC : Addr} {fd fdC : FuncData} (F : Fun K "gaps_end" "gaps_end" sGapsEnd f fd) (B : Bl mg) (Fcomment_end : Fun K "comment_end" "comment_end" sCommentEnd fC fdC) (bcomment_end : Binds K fdC ["text", "at"] []) (gcomment_end : mg "comment_end" = some (.ref fC)) :
    FnOk P w K mg base CX0 2 f fd ["text", "at"] spGapsEnd := by
  have Gcomment_end : FnOk P w K mg base CX0 1 fC fdC ["text", "at"] spCommentEnd := okCommentEnd Fcomment_end B
  refine F.ok scGapsEnd (fun vs H Q E h => ?_) (fun cdv A outer s H vs Q E hr h => ?_)
  · obtain ⟨l, a, rfl, _⟩ := h
    rfl
  · obtain ⟨l, a, rfl, ha, hl, q⟩ := h
    have hz := sizeLine_eq
    have hL : (S l).length = l.length := S_len l
    refine ⟨_, pss_cons (ps_while PassesOwn.never (pt_cmpR op_lt (pv 1) (pe_callB call_len_str (by rfl) B.len PySem.boot_len (pa_cons (pv 0) pa_nil)) (nomark _))
        (pss_one (ps_if (pt_cmpR op_in_sign (pe_ix ix_str (pv 0) (pv 1) (fun _ _ => rfl)) pe_str rfl)
          (pss_one (ps_aug (i := 1) scGapsEnd.nd rfl (.inl rfl) pe_int ip_add))
          (pss_one (ps_if (pt_val (pe_bm PySem.F.plainAttrs_str PySem.F.slot_str_startswith PySem.F.type_str_startswith mt_startswith3 (pv 0) (pa_cons pe_str (pa_cons (pv 1) pa_nil))))
            (pss_one (ps_set (i := 1) scGapsEnd.nd rfl (.inl rfl) (pe_call Gcomment_end (hr.mono (by decide)) (by rfl) gcomment_end Fcomment_end.kp bcomment_end .nil pass0 (pa_cons (pv 0) (pa_cons (pv 1) pa_nil)))))
            (pss_one ps_break))))))
      (pss_one (ps_ret (pv 1))), ?_⟩
    refine ⟨fun m σ H' => ∃ b : Nat, σ = [some (.str (S l)), some (.int (b : Int))] ∧ H' = H ∧ b ≤ l.length ∧ b + Lx.gap (l.drop b) = a + Lx.gap (l.drop a) ∧ m = l.length - b, ⟨_, a, rfl, rfl, ha, rfl, rfl⟩, ?_⟩
    rintro m σ H' ⟨b, rfl, rfl, hb, hg, rfl⟩
    refine ⟨_, rfl, _, rfl, _, rfl, (by walk_at "sz"), _, _, rfl, rfl, _, rfl, ite2 (fun e => ?_) (fun e => ?_)⟩
    · have hlt : b < l.length := by
        have := of_decide_eq_true e
        omega
      have ed := drop_cons hlt
      have hc : l[b]? = some l[b] := List.getElem?_eq_getElem hlt
      refine ⟨fun σ' H1 => ∃ b' : Nat, σ' = [some (.str (S l)), some (.int (b' : Int))] ∧ H1 = H' ∧ b' ≤ l.length ∧ b' + Lx.gap (l.drop b') = a + Lx.gap (l.drop a) ∧ b < b', ?_, ?_⟩
      · rintro σ' H1 ⟨b', rfl, rfl, h1, h2, h3⟩
        exact ⟨_, by omega, b', rfl, rfl, h1, h2, rfl⟩
      -- if text[at] in ' \n':
      refine ⟨_, rfl, _, rfl, _, _, _, rfl, rfl, (by walk_at "sz"), atS l b _ hc, _, _, rfl, rfl, _, rfl, ite2 (fun e2 => ?_) (fun e2 => ?_)⟩
      · have h2 : l[b] = 32 ∨ l[b] = 10 := by
          have := of_decide_eq_true e2
          rw [show ((" \n" : Str)).cps.toList = [32, 10] by decide +kernel] at this
          simpa using this
        refine ⟨_, rfl, _, _, rfl, rfl, b + 1, ?_, rfl, by omega, ?_, by omega⟩
        · rfl
        · rw [ed, Lx.gap_blank _ h2] at hg
          omega
      · have h2 : ¬ (l[b] = 32 ∨ l[b] = 10) := fun z => e2 (decide_eq_true (by
          rw [show ((" \n" : Str)).cps.toList = [32, 10] by decide +kernel]
          simpa using z))
        -- elif text.startswith('//', at):
        refine ⟨_, rfl, rfl, _, rfl, _, _, _, rfl, rfl, _, rfl, ite2 (fun e3 => ?_) (fun e3 => ?_)⟩
        · rw [show (("//" : Str)) = S [47, 47] by decide +kernel, starts2 l b hb] at e3
          have h3 : l[b] = 47 ∧ (l.drop (b + 1)).head? = some 47 := by
            have := eq_of_beq e3
            rw [ed] at this
            injection this with t1 t2
            refine ⟨t1, ?_⟩
            cases hh : l.drop (b + 1) with
            | nil =>
              rw [hh] at t2
              cases t2
            | cons x r =>
              rw [hh] at t2
              injection t2 with t3 _
              rw [t3]
              rfl
          -- at = comment_end(text, at)
          refine ⟨_, rfl, _, rfl, l, b, rfl, hb, hl, b + Lx.line (l.drop b), rfl, rfl, ?_, ?_, ?_⟩
          · have := Lx.line_le (l.drop b)
            rw [List.length_drop] at this
            omega
          · rw [ed, Lx.gap_slash _ h2 h3, ← ed, List.drop_drop] at hg
            omega
          · rw [ed]
            have h10 : ¬ l[b] = 10 := fun z => h2 (.inr z)
            show b < b + (if l[b] = 10 then 0 else Lx.line (l.drop (b + 1)) + 1)
            rw [if_neg h10]
            omega
        · rw [show (("//" : Str)) = S [47, 47] by decide +kernel, starts2 l b hb] at e3
          have h3 : ¬ (l[b] = 47 ∧ (l.drop (b + 1)).head? = some 47) := fun ⟨t1, t2⟩ => e3 (by
            rw [ed, t1]
            cases hh : l.drop (b + 1) with
            | nil =>
              rw [hh] at t2
              cases t2
            | cons x r =>
              rw [hh] at t2
              have := Option.some.inj t2
              subst this
              rfl)
          -- break
          have hg0 : Lx.gap (l.drop b) = 0 := by rw [ed, Lx.gap_stop _ h2 h3]
          refine ⟨_, rfl, ?_⟩
          rw [show (b : Int) = ((a + Lx.gap (l.drop a) : Nat) : Int) by omega]
          exact q
    · have hge : b = l.length := by
        have : ¬ (b : Int) < ((S l).length : Nat) := fun z => e (decide_eq_true z)
        omega
      have hg0 : Lx.gap (l.drop b) = 0 := by
        rw [hge, List.drop_length]
        rfl
      refine ⟨_, rfl, ?_⟩
      rw [show (b : Int) = ((a + Lx.gap (l.drop a) : Nat) : Int) by omega]
      exact q
/-! ### run_end -/
abbrev sRunEnd : Stmt := top 14
theorem scRunEnd : FnScope ["text", "at", "signs"] ["text", "at", "signs"] (defScope sRunEnd) := ⟨rfl, rfl, rfl, by decide +kernel, rfl, by decide +kernel, by decide +kernel⟩
def spRunEnd : Sp := fun vs H Q _ => ∃ (l sg : List Nat) (a : Nat), vs = [.str (S l), .int (a : Int), .str (S sg)] ∧ a ≤ l.length ∧ l.length ≤ 1000000 ∧ Q (.int ((a + Lx.run (fun c => decide (c ∈ sg)) (l.drop a) : Nat) : Int)) H
theorem okRunEnd {f : Addr} {fd : FuncData} (F : Fun K "run_end" "run_end" sRunEnd f fd) (B : Bl mg) : FnOk P w K mg base CX0 1 f fd ["text", "at", "signs"] spRunEnd := by
  refine F.ok scRunEnd (fun vs H Q E h => ?_) (fun cdv A outer s H vs Q E hr h => ?_)
  · obtain ⟨l, sg, a, rfl, _⟩ := h
    rfl
  · obtain ⟨l, sg, a, rfl, ha, hl, q⟩ := h
    have hz := sizeLine_eq
    have hL : (S l).length = l.length := S_len l
    refine ⟨_, pss_cons (ps_while PassesOwn.never (PW.pt (pw_and (pt_cmpR op_lt (pv 1) (pe_callB call_len_str (by rfl) B.len PySem.boot_len (pa_cons (pv 0) pa_nil)) (nomark _)) (pw_and1 (pt_cmpR op_in_sign (pe_ix ix_str (pv 0) (pv 1) (fun _ _ => rfl)) (pv 2) rfl))))
        (pss_one (ps_aug (i := 1) scRunEnd.nd rfl (.inl rfl) pe_int ip_add)))
      (pss_one (ps_ret (pv 1))), ?_⟩
    refine ⟨fun m σ H' => ∃ b : Nat, σ = [some (.str (S l)), some (.int (b : Int)), some (.str (S sg))] ∧ H' = H ∧ b ≤ l.length ∧ b + Lx.run (fun c => decide (c ∈ sg)) (l.drop b) = a + Lx.run (fun c => decide (c ∈ sg)) (l.drop a) ∧ m = l.length - b, ⟨_, a, rfl, rfl, ha, rfl, rfl⟩, ?_⟩
    rintro m σ H' ⟨b, rfl, rfl, hb, hg, rfl⟩
    have fin : Lx.run (fun c => decide (c ∈ sg)) (l.drop b) = 0 → tRet (tVar 1) ⟨fun _ _ => False, Q, fun _ _ => False, fun _ _ => False⟩ [some (.str (S l)), some (.int (b : Int)), some (.str (S sg))] H' := fun h0 => by
      refine ⟨_, rfl, ?_⟩
      rw [show (b : Int) = ((a + Lx.run (fun c => decide (c ∈ sg)) (l.drop a) : Nat) : Int) by omega]
      exact q
    refine ⟨_, rfl, _, rfl, _, rfl, (by walk_at "sz"), _, _, rfl, rfl, _, rfl, ite2 (fun e => ?_) (fun e => iteF ?_)⟩
    · have hlt : b < l.length := by
        have := of_decide_eq_true e
        omega
      have ed := drop_cons hlt
      have hc : l[b]? = some l[b] := List.getElem?_eq_getElem hlt
      refine ⟨_, rfl, _, rfl, _, _, _, rfl, rfl, (by walk_at "sz"), atS l b _ hc, _, rfl, _, _, rfl, rfl, _, rfl, ite2 (fun e2 => ?_) (fun e2 => ?_)⟩
      · refine ⟨fun σ' H1 => ∃ b' : Nat, σ' = [some (.str (S l)), some (.int (b' : Int)), some (.str (S sg))] ∧ H1 = H' ∧ b' ≤ l.length ∧ b' + Lx.run (fun c => decide (c ∈ sg)) (l.drop b') = a + Lx.run (fun c => decide (c ∈ sg)) (l.drop a) ∧ b < b', ?_, ?_⟩
        · rintro σ' H1 ⟨b', rfl, rfl, h1, h2, h3⟩
          exact ⟨_, by omega, b', rfl, rfl, h1, h2, rfl⟩
        refine ⟨_, rfl, _, _, rfl, rfl, b + 1, rfl, rfl, by omega, ?_, by omega⟩
        rw [ed] at hg
        have : Lx.run (fun c => decide (c ∈ sg)) (l[b] :: l.drop (b + 1)) = Lx.run (fun c => decide (c ∈ sg)) (l.drop (b + 1)) + 1 := by
          show (if decide (l[b] ∈ sg) = true then _ else 0) = _
          rw [if_pos e2]
        rw [this] at hg
        omega
      · refine fin ?_
        rw [ed]
        show (if decide (l[b] ∈ sg) = true then _ else 0) = _
        rw [if_neg e2]
    · refine fin ?_
      have hge : b = l.length := by
        have : ¬ (b : Int) < ((S l).length : Nat) := fun z => e (decide_eq_true z)
        omega
      rw [hge, List.drop_length]
      rfl
end
end My
/-! ### tokens, as they are told -/
namespace My
open PySem L2 SX
open C8 (pss_cut tCut cutS_slice pe_gc)
abbrev Tk := Str × Nat × V
def kEnd : Str := "end"
def kFault : Str := "fault"
def kWord : Str := "word"
def kName : Str := "name"
def kNumber : Str := "number"
def kText : Str := "text"
def kSign : Str := "sign"
def tooGreat : Str := "the number is too great"
def notEnds : Str := "the text does not end"
def notKnown : Str := "the escape is not known"
def msg (why : Nat) : Str := if why = 0 then notEnds else if why = 1 then notKnown else notAllowed
def isWord (x : List Nat) : Bool := inV (.str (S x)) wordsV
def isLong (x : List Nat) : Bool := inV (.str (S x)) longV
def fin (t : Tk) : Bool := t.1 == kEnd || t.1 == kFault
def nameT (a : Nat) (r : List Nat) : Tk × Nat := let x := r.take (Lx.run Lx.isWc r); ((if isWord x = true then kWord else kName, a, .str (S x)), a + Lx.run Lx.isWc r)
def strip (d : List Nat) : List Nat := d.dropWhile (· == 48)
def digVal (d : List Nat) : Nat := NumText.digitsVal (if strip d = [] then [48] else strip d)
def numT (a : Nat) (r : List Nat) : Tk × Nat := let d := r.take (Lx.run Lx.isDig r)
  if 300 < (strip d).length then ((kFault, a, .str tooGreat), a) else ((kNumber, a, .int (digVal d : Nat)), a + Lx.run Lx.isDig r)
def textT (a : Nat) (r : List Nat) : Tk × Nat := match Lx.scanT a (a + 1) [] r with
  | .ok v e => ((kText, a, .str (S v)), e)
  | .bad o why => ((kFault, o, .str (msg why)), a)
def tokR (a : Nat) : List Nat → Tk × Nat
  | [] => ((kEnd, a, .non), a)
  | c :: r => if Lx.isLet c = true then nameT a (c :: r) else if Lx.isDig c = true then numT a (c :: r) else if c = 34 then textT a r
    else if isLong ((c :: r).take 2) = true then ((kSign, a, .str (S ((c :: r).take 2))), a + 2) else if c ∈ shortC then ((kSign, a, .str (S [c])), a + 1) else ((kFault, a, .str notAllowed), a)
inductive Cut (l : List Nat) : Nat → List Tk → Prop where
  | last {a n : Nat} {t : Tk} (e : tokR (a + Lx.gap (l.drop a)) (l.drop (a + Lx.gap (l.drop a))) = (t, n)) (f : fin t = true) : Cut l a [t]
  | more {a n : Nat} {t : Tk} {ts : List Tk} (e : tokR (a + Lx.gap (l.drop a)) (l.drop (a + Lx.gap (l.drop a))) = (t, n)) (f : fin t = false) (h : n ≤ l.length) (c : Cut l n ts) : Cut l a (t :: ts)
/-- a token at q, and the pair of it and n at p, both new -/
structure Two (H H' : Hp) (p q : Addr) (t : Tk) (n : Nat) : Prop where
  same : Same H H'
  fp : H p = none
  fq : H q = none
  ep : H' p = some (.tup [.ref q, .int (n : Int)])
  eq : H' q = some (.tup [.str t.1, .int (t.2.1 : Int), t.2.2])
theorem Two.of {H H1 : Hp} {p q : Addr} {t : Tk} {n : Nat} (s : Same H H1) (nq : H q = none) (eq : H1 q = some (.tup [.str t.1, .int (t.2.1 : Int), t.2.2])) (np : H1 p = none) : Two H (upd H1 p (.tup [.ref q, .int (n : Int)])) p q t n :=
  ⟨s.trans (same_upd np), s.free np, nq, upd_same, by rw [upd_ne (ne_of_none eq np)]; exact eq⟩
theorem run_take (p : Nat → Bool) : ∀ (r : List Nat), ∀ c ∈ r.take (Lx.run p r), p c = true
  | [], c, h => by simp at h
  | d :: r, c, h => by
    by_cases hd : p d = true
    · have e : Lx.run p (d :: r) = Lx.run p r + 1 := if_pos hd
      rw [e, List.take_succ_cons] at h
      rcases List.mem_cons.mp h with rfl | h'
      · exact hd
      · exact run_take p r c h'
    · have e : Lx.run p (d :: r) = 0 := if_neg hd
      rw [e] at h
      simp at h
theorem run_congr {p q : Nat → Bool} (h : ∀ c, p c = q c) (r : List Nat) : Lx.run p r = Lx.run q r := by
  have : p = q := funext h
  rw [this]
theorem strip_mem {d : List Nat} {c : Nat} (h : c ∈ strip d) : c ∈ d := (List.dropWhile_sublist _).mem h
/-- the fault at a place of a text: its offset, why -/
def faultAt (start a : Nat) : List Nat → Option (Nat × Nat)
  | [] => some (start, 0)
  | c :: r => if c = 10 then some (start, 0) else if c = 92 then (match r with
      | [] => some (start, 0)
      | d :: _ => if esc d = none then some (a, 1) else none) else if Lx.isChr c = true then none else some (a, 2)
theorem scan_fault {start a : Nat} {acc r : List Nat} {o why : Nat} (h34 : r.head? ≠ some 34) (h : faultAt start a r = some (o, why)) : Lx.scanT start a acc r = .bad o why := by
  cases r with
  | nil =>
    cases h
    rfl
  | cons c r =>
    have n34 : ¬ c = 34 := fun z => h34 (by rw [z]; rfl)
    rw [Lx.scanT.eq_def]
    unfold faultAt at h
    simp only [n34, if_false]
    by_cases h10 : c = 10
    · simp only [h10, if_true] at h ⊢
      cases h
      rfl
    · simp only [h10, if_false] at h ⊢
      by_cases h92 : c = 92
      · simp only [h92, if_true] at h ⊢
        cases r with
        | nil =>
          cases h
          rfl
        | cons d r2 =>
          simp only [] at h ⊢
          unfold esc at h
          by_cases d1 : d = 110
          · simp [d1] at h
          · by_cases d2 : d = 34
            · simp [d2] at h
            · by_cases d3 : d = 92
              · simp [d3] at h
              · simp [d1, d2, d3] at h ⊢
                exact h
      · simp only [h92, if_false] at h ⊢
        by_cases hc : Lx.isChr c = true
        · simp [hc] at h
        · simp [hc] at h ⊢
          exact h
theorem scan_esc {start a : Nat} {acc r : List Nat} {d e : Nat} (he : esc d = some e) : Lx.scanT start a acc (92 :: d :: r) = Lx.scanT start (a + 2) (acc ++ [e]) r := by
  rw [Lx.scanT.eq_def]
  simp only [show ¬ (92 : Nat) = 34 by decide, show ¬ (92 : Nat) = 10 by decide, if_false, if_true]
  unfold esc at he
  by_cases d1 : d = 110
  · simp [d1] at he ⊢
    rw [he]
  · by_cases d2 : d = 34
    · simp [d2] at he ⊢
      rw [he]
    · by_cases d3 : d = 92
      · simp [d3] at he ⊢
        rw [he]
      · simp [d1, d2, d3] at he
theorem scan_plain {start a : Nat} {acc r : List Nat} {c : Nat} (h34 : ¬ c = 34) (h92 : ¬ c = 92) (h : faultAt start a (c :: r) = none) : Lx.scanT start a acc (c :: r) = Lx.scanT start (a + 1) (acc ++ [c]) r := by
  rw [Lx.scanT.eq_def]
  unfold faultAt at h
  by_cases h10 : c = 10
  · simp [h10] at h
  · simp only [h10, h92, h34, if_false] at h ⊢
    by_cases hc : Lx.isChr c = true
    · simp [hc]
    · simp [hc] at h
theorem fault_esc {start a : Nat} {r : List Nat} (h : faultAt start a (92 :: r) = none) : ∃ d r2 e, r = d :: r2 ∧ esc d = some e := by
  cases r with
  | nil => cases h
  | cons d r2 =>
    cases he : esc d with
    | none =>
      unfold faultAt at h
      simp [he] at h
    | some e => exact ⟨d, r2, e, rfl, he⟩
section
variable {P : Program} {w : World} {K : PySem.W.Frag} {mg : Str → Option Value} {base : Heap} {wA lA eA : Addr}
local macro_rules | `(tactic| walk_at "sz") => `(tactic| first | assumption | (simp only [S_len, List.length_append, List.length_cons, List.length_nil, List.length_take, List.length_drop] <;> omega))
/-! ### name_token -/
abbrev sNameToken : Stmt := top 15
theorem scNameToken : FnScope ["text", "at", "end", "name", "kind"] ["text", "at"] (defScope sNameToken) := ⟨rfl, rfl, rfl, by decide +kernel, rfl, by decide +kernel, by decide +kernel⟩
def spNameToken : Sp := fun vs H Q _ => ∃ (l : List Nat) (a : Nat), vs = [.str (S l), .int (a : Int)] ∧ a ≤ l.length ∧ l.length ≤ 1000000 ∧ ∀ H' p q, Two H H' p q (nameT a (l.drop a)).1 (nameT a (l.drop a)).2 → Q (.ref p) H'
theorem okNameToken {f fR : Addr} {fd fdR : FuncData} (F : Fun K "name_token" "name_token" sNameToken f fd) (B : Bl mg) (T : Tx K w mg wA lA eA) (Frun_end : Fun K "run_end" "run_end" sRunEnd fR fdR) (brun_end : Binds K fdR ["text", "at", "signs"] []) (grun_end : mg "run_end" = some (.ref fR)) :
    FnOk P w K mg base CX0 2 f fd ["text", "at"] spNameToken := by
  have Grun_end : FnOk P w K mg base CX0 1 fR fdR ["text", "at", "signs"] spRunEnd := okRunEnd Frun_end B
  refine F.ok scNameToken (fun vs H Q E h => ?_) (fun cdv A outer s H vs Q E hr h => ?_)
  · obtain ⟨l, a, rfl, _⟩ := h
    rfl
  · obtain ⟨l, a, rfl, ha, hl, q⟩ := h
    have hz := sizeLine_eq
    refine ⟨_, pss_cons (ps_set (i := 2) scNameToken.nd rfl (.inl rfl) (pe_call Grun_end (hr.mono (by decide)) (by rfl) grun_end Frun_end.kp brun_end .nil pass0 (pa_cons (pv 0) (pa_cons (pv 1) (pa_cons (pe_op op_add_str (pe_gc (by rfl) T.gLETTERS) (pe_gc (by rfl) T.gDIGITS)) pa_nil)))))
      (pss_cons (ps_set (i := 3) scNameToken.nd rfl (.inl rfl) (pe_slice sl_str (pv 0) (po_some (pv 1)) (po_some (pv 2))))
      (pss_cons (ps_set (i := 4) scNameToken.nd rfl (.inl rfl) (pe_ifExp (pt_cmpR op_in_seq (pv 3) (pe_gc (by rfl) T.gWORDS) (by rfl)) pe_str pe_str))
      (pss_one (ps_ret (pe_tup (pa_cons (pe_tup (pa_cons (pv 4) (pa_cons (pv 1) (pa_cons (pv 3) pa_nil)))) (pa_cons (pv 2) pa_nil))))))), ?_⟩
    -- end = run_end(text, at, LETTERS + DIGITS)
    refine ⟨_, rfl, _, rfl, _, _, rfl, rfl, (by show 53 + 10 ≤ sizeLine; omega), ?_⟩
    rw [S_cat]
    refine ⟨l, _, a, rfl, ha, hl, ?_⟩
    rw [run_congr in_wc]
    have hrun := Lx.run_le Lx.isWc (l.drop a)
    rw [List.length_drop] at hrun
    -- name = text[at:end]
    refine ⟨_, rfl, _, rfl, _, rfl, _, rfl, _, rfl, S l, rfl, (by walk_at "sz"), ?_⟩
    rw [cut2 l _ _ (Nat.le_add_right _ _), Nat.add_sub_cancel_left]
    -- kind = 'word' if name in WORDS else 'name'
    refine ⟨_, rfl, wA, _, rfl, .inr (T.tW _), rfl, rfl, _, rfl, ite2 (fun e => ?_) (fun e => ?_)⟩
    · refine ⟨_, rfl, _, rfl, _, rfl, (by show 3 ≤ sizeLine; decide), fun p1 n1 => ?_⟩
      refine ⟨_, rfl, (by show 2 ≤ sizeLine; decide), fun p2 n2 => ?_⟩
      have hw : isWord ((l.drop a).take (Lx.run Lx.isWc (l.drop a))) = true := e
      have en : nameT a (l.drop a) = ((kWord, a, .str (S ((l.drop a).take (Lx.run Lx.isWc (l.drop a))))), a + Lx.run Lx.isWc (l.drop a)) := by
        show ((if isWord ((l.drop a).take (Lx.run Lx.isWc (l.drop a))) = true then kWord else kName, _), _) = _
        rw [if_pos hw]
      rw [en] at q
      exact q _ p2 p1 (Two.of (same_upd n1) n1 upd_same n2)
    · refine ⟨_, rfl, _, rfl, _, rfl, (by show 3 ≤ sizeLine; decide), fun p1 n1 => ?_⟩
      refine ⟨_, rfl, (by show 2 ≤ sizeLine; decide), fun p2 n2 => ?_⟩
      have hw : ¬ isWord ((l.drop a).take (Lx.run Lx.isWc (l.drop a))) = true := e
      have en : nameT a (l.drop a) = ((kName, a, .str (S ((l.drop a).take (Lx.run Lx.isWc (l.drop a))))), a + Lx.run Lx.isWc (l.drop a)) := by
        show ((if isWord ((l.drop a).take (Lx.run Lx.isWc (l.drop a))) = true then kWord else kName, _), _) = _
        rw [if_neg hw]
      rw [en] at q
      exact q _ p2 p1 (Two.of (same_upd n1) n1 upd_same n2)
/-! ### number_token -/
abbrev sNumberToken : Stmt := top 16
theorem scNumberToken : FnScope ["text", "at", "end", "digits"] ["text", "at"] (defScope sNumberToken) := ⟨rfl, rfl, rfl, by decide +kernel, rfl, by decide +kernel, by decide +kernel⟩
def spNumberToken : Sp := fun vs H Q _ => ∃ (l : List Nat) (a : Nat), vs = [.str (S l), .int (a : Int)] ∧ a ≤ l.length ∧ l.length ≤ 1000000 ∧ ∀ H' p q, Two H H' p q (numT a (l.drop a)).1 (numT a (l.drop a)).2 → Q (.ref p) H'
theorem okNumberToken {f fR : Addr} {fd fdR : FuncData} (F : Fun K "number_token" "number_token" sNumberToken f fd) (B : Bl mg) (T : Tx K w mg wA lA eA) (Frun_end : Fun K "run_end" "run_end" sRunEnd fR fdR) (brun_end : Binds K fdR ["text", "at", "signs"] []) (grun_end : mg "run_end" = some (.ref fR)) :
    FnOk P w K mg base CX0 2 f fd ["text", "at"] spNumberToken := by
  have Grun_end : FnOk P w K mg base CX0 1 fR fdR ["text", "at", "signs"] spRunEnd := okRunEnd Frun_end B
  refine F.ok scNumberToken (fun vs H Q E h => ?_) (fun cdv A outer s H vs Q E hr h => ?_)
  · obtain ⟨l, a, rfl, _⟩ := h
    rfl
  · obtain ⟨l, a, rfl, ha, hl, q⟩ := h
    have hz := sizeLine_eq
    refine ⟨_, pss_cons (ps_set (i := 2) scNumberToken.nd rfl (.inl rfl) (pe_call Grun_end (hr.mono (by decide)) (by rfl) grun_end Frun_end.kp brun_end .nil pass0 (pa_cons (pv 0) (pa_cons (pv 1) (pa_cons (pe_gc (by rfl) T.gDIGITS) pa_nil)))))
      (pss_cons (ps_set (i := 3) scNumberToken.nd rfl (.inl rfl) (pe_m1 PySem.F.slot_str_lstrip PySem.F.type_str_lstrip mt_lstripChars (pe_slice sl_str (pv 0) (po_some (pv 1)) (po_some (pv 2))) pe_str))
      (pss_cons (ps_if (pt_cmpR op_gt (pe_callB call_len_str (by rfl) B.len PySem.boot_len (pa_cons (pv 3) pa_nil)) (pe_gc (by rfl) T.gMOST_DIGITS) (nomark _))
        (pss_one (ps_ret (pe_tup (pa_cons (pe_tup (pa_cons pe_str (pa_cons (pv 1) (pa_cons pe_str pa_nil)))) (pa_cons (pv 1) pa_nil)))))
        pss_nil)
      (pss_one (ps_ret (pe_tup (pa_cons (pe_tup (pa_cons pe_str (pa_cons (pv 1) (pa_cons (pe_callTy call_int_str (by rfl) B.int (by decide +kernel) (pa_cons (pe_orT (pv 3) (pe_one pe_str)) pa_nil)) pa_nil)))) (pa_cons (pv 2) pa_nil))))))), ?_⟩
    -- end = run_end(text, at, DIGITS)
    refine ⟨_, rfl, _, rfl, l, _, a, rfl, ha, hl, ?_⟩
    rw [run_congr in_dig]
    have hrun := Lx.run_le Lx.isDig (l.drop a)
    rw [List.length_drop] at hrun
    -- digits = text[at:end].lstrip('0')
    refine ⟨_, rfl, _, rfl, _, rfl, _, rfl, _, rfl, S l, rfl, (by walk_at "sz"), ?_⟩
    rw [cut2 l _ _ (Nat.le_add_right _ _), Nat.add_sub_cancel_left]
    refine ⟨⟨_, rfl⟩, _, _, rfl, rfl, (by walk_at "sz"), ?_⟩
    rw [show (("0" : Str)) = S [48] by decide +kernel, strip0]
    have hsl : (strip ((l.drop a).take (Lx.run Lx.isDig (l.drop a)))).length ≤ l.length := by
      refine Nat.le_trans (List.dropWhile_sublist _).length_le ?_
      rw [List.length_take, List.length_drop]
      omega
    have hss : (S (strip ((l.drop a).take (Lx.run Lx.isDig (l.drop a))))).length ≤ sizeLine := by
      rw [S_len]
      omega
    have hall : ∀ c ∈ strip ((l.drop a).take (Lx.run Lx.isDig (l.drop a))), Lx.isDig c = true := fun c hc => run_take _ _ c (strip_mem hc)
    -- if len(digits) > MOST_DIGITS:
    refine ⟨_, rfl, _, rfl, hss, _, _, rfl, rfl, _, rfl, ite2 (fun e => ?_) (fun e => ?_)⟩
    · have h300 : 300 < (strip ((l.drop a).take (Lx.run Lx.isDig (l.drop a)))).length := by
        have := of_decide_eq_true e
        rw [S_len] at this
        exact Int.ofNat_lt.mp this
      refine ⟨_, rfl, (by show 3 ≤ sizeLine; decide), fun p1 n1 => ?_⟩
      refine ⟨_, rfl, (by show 2 ≤ sizeLine; decide), fun p2 n2 => ?_⟩
      have en : numT a (l.drop a) = ((kFault, a, .str tooGreat), a) := if_pos h300
      rw [en] at q
      exact q _ p2 p1 (Two.of (same_upd n1) n1 upd_same n2)
    · have h300 : ¬ 300 < (strip ((l.drop a).take (Lx.run Lx.isDig (l.drop a)))).length := fun z => e (decide_eq_true (by
        rw [S_len]
        exact Int.ofNat_lt.mpr z))
      have en : numT a (l.drop a) = ((kNumber, a, .int (digVal ((l.drop a).take (Lx.run Lx.isDig (l.drop a))) : Nat)), a + Lx.run Lx.isDig (l.drop a)) := if_neg h300
      rw [en] at q
      -- return (('number', at, int(digits or '0')), end)
      refine ⟨_, rfl, _, rfl, _, ⟨hss, rfl⟩, ite2 (fun e2 => ?_) (fun e2 => ?_)⟩
      · have hne : strip ((l.drop a).take (Lx.run Lx.isDig (l.drop a))) ≠ [] := fun z => by
          have z2 : ((S (strip ((l.drop a).take (Lx.run Lx.isDig (l.drop a))))).length : Int) != 0 := e2
          rw [S_len, z] at z2
          exact absurd z2 (by decide)
        have ei : intText? (S (strip ((l.drop a).take (Lx.run Lx.isDig (l.drop a))))) = some ((digVal ((l.drop a).take (Lx.run Lx.isDig (l.drop a))) : Nat) : Int) := by
          unfold digVal
          rw [if_neg hne]
          exact int_S (List.all_eq_true.mpr hall) hne (by omega)
        refine ⟨_, _, rfl, ei, (by rw [S_len]; show (strip _).length ≤ 640; omega), (by show 3 ≤ sizeLine; decide), fun p1 n1 => ?_⟩
        refine ⟨_, rfl, (by show 2 ≤ sizeLine; decide), fun p2 n2 => ?_⟩
        exact q _ p2 p1 (Two.of (same_upd n1) n1 upd_same n2)
      · have hne : strip ((l.drop a).take (Lx.run Lx.isDig (l.drop a))) = [] := by
          cases hs : strip ((l.drop a).take (Lx.run Lx.isDig (l.drop a))) with
          | nil => rfl
          | cons x r =>
            exfalso
            refine e2 ?_
            show (((S (strip ((l.drop a).take (Lx.run Lx.isDig (l.drop a))))).length : Int) != 0) = true
            rw [S_len, hs]
            rw [bne_iff_ne, List.length_cons]
            omega
        have ei : intText? (S [48]) = some ((digVal ((l.drop a).take (Lx.run Lx.isDig (l.drop a))) : Nat) : Int) := by
          unfold digVal
          rw [if_pos hne]
          exact int_S (by decide) (by decide) (by decide)
        refine ⟨_, _, rfl, ei, (by decide), (by show 3 ≤ sizeLine; decide), fun p1 n1 => ?_⟩
        refine ⟨_, rfl, (by show 2 ≤ sizeLine; decide), fun p2 n2 => ?_⟩
        exact q _ p2 p1 (Two.of (same_upd n1) n1 upd_same n2)
end
end My
/-! ### text_fault and what is around it -/
namespace My
open PySem L2 SX
open C8 (pss_cut tCut cutS_slice pe_gc)
theorem lt_one (c d : Nat) : decide (([c] : List Nat) < [d]) = decide (c < d) := by
  rw [Bool.eq_iff_iff, decide_eq_true_eq, decide_eq_true_eq, List.cons_lt_cons_iff]
  constructor
  · rintro (h | ⟨_, h⟩)
    · exact h
    · exact absurd h (List.not_lt_nil _)
  · exact .inl
section
variable {P : Program} {w : World} {K : PySem.W.Frag} {mg : Str → Option Value} {base : Heap} {wA lA eA : Addr}
local macro_rules | `(tactic| walk_at "sz") => `(tactic| first | assumption | (simp only [S_len, List.length_append, List.length_cons, List.length_nil, List.length_take, List.length_drop] <;> omega))
/-! ### is_character -/
abbrev sIsCharacter : Stmt := top 19
theorem scIsCharacter : FnScope ["sign"] ["sign"] (defScope sIsCharacter) := ⟨rfl, rfl, rfl, by decide +kernel, rfl, by decide +kernel, by decide +kernel⟩
def spIsCharacter : Sp := fun vs H Q _ => ∃ (c : Nat), vs = [.str (S [c])] ∧ Q (.bl (Lx.isChr c)) H
theorem okIsCharacter {f : Addr} {fd : FuncData} (F : Fun K "is_character" "is_character" sIsCharacter f fd) (B : Bl mg) (T : Tx K w mg wA lA eA) : FnOk P w K mg base CX0 1 f fd ["sign"] spIsCharacter := by
  refine F.ok scIsCharacter (fun vs H Q E h => ?_) (fun cdv A outer s H vs Q E hr h => ?_)
  · obtain ⟨c, rfl, _⟩ := h
    rfl
  · obtain ⟨c, rfl, q⟩ := h
    refine ⟨_, pss_one (ps_ret (pe_or (pe_cmpR op_eq (pv 0) pe_str (nomark _)) (pe_one (pe_and (pe_chain op_le_str op_le_str pe_str (pv 0) pe_str) (pe_one (pe_cmpR op_ne (pe_callB call_ord (by rfl) B.ord (by decide +kernel) (pa_cons (pv 0) pa_nil)) (pe_gc (by rfl) T.gPERCENT) (nomark _))))))), ?_⟩
    have e10 : (("\n" : Str)) = S [10] := by decide +kernel
    have e32 : ((" " : Str)).cps.toList = [32] := by decide +kernel
    have e126 : (("~" : Str)).cps.toList = [126] := by decide +kernel
    have ec : (S [c]).cps.toList = [c] := rfl
    refine ⟨_, rfl, rfl, _, rfl, ite2 (fun e => ?_) (fun e => ?_)⟩
    · have h10 : c = 10 := by
        have := V.str.inj (of_decide_eq_true e)
        rw [e10] at this
        injection S_inj this
      have : Lx.isChr c = true := by
        rw [h10]
        decide
      rw [this] at q
      exact q
    · have h10 : ¬ c = 10 := fun z => e (decide_eq_true (by rw [e10, z]))
      refine ⟨_, rfl, _, _, rfl, rfl, _, rfl, ite2 (fun e2 => ⟨_, _, rfl, rfl, _, rfl, ite2 (fun e3 => ?_) (fun e3 => ?_)⟩) (fun e2 => ⟨_, rfl, iteF ?_⟩)⟩
      · rw [e32, ec, lt_one] at e2
        rw [e126, ec, lt_one] at e3
        have h1 : 32 ≤ c := by simpa using e2
        have h2 : c ≤ 126 := by simpa using e3
        refine ⟨_, rfl, S [c], rfl, rfl, rfl, ?_⟩
        have : Lx.isChr c = !decide (V.int (((S [c]).cps.getD 0 0 : Nat) : Int) = V.int 37) := by
          show _ = !decide (V.int ((c : Nat) : Int) = V.int 37)
          unfold Lx.isChr
          by_cases h : c = 37
          · subst h
            decide
          · have h' : ¬ (V.int ((c : Nat) : Int) = V.int 37) := fun z => h (by
              have := V.int.inj z
              omega)
            simp [h, h', h1, h2]
        rw [this] at q
        exact q
      · rw [e126, ec, lt_one] at e3
        have h2 : ¬ c ≤ 126 := by simpa using e3
        have : Lx.isChr c = false := by
          unfold Lx.isChr
          simp [h10, h2]
        rw [this] at q
        exact q
      · rw [e32, ec, lt_one] at e2
        have h1 : ¬ 32 ≤ c := by simpa using e2
        have : Lx.isChr c = false := by
          unfold Lx.isChr
          simp [h10, h1]
        rw [this] at q
        exact q
/-! ### text_fault -/
abbrev sTextFault : Stmt := top 18
theorem scTextFault : FnScope ["text", "start", "at", "sign", "after"] ["text", "start", "at"] (defScope sTextFault) := ⟨rfl, rfl, rfl, by decide +kernel, rfl, by decide +kernel, by decide +kernel⟩
def spTextFault : Sp := fun vs H Q _ => ∃ (l : List Nat) (b a : Nat), vs = [.str (S l), .int (b : Int), .int (a : Int)] ∧ l.length ≤ 1000000 ∧
  (∀ o why, faultAt b a (l.drop a) = some (o, why) → ∀ H' p, Same H H' → H p = none → H' p = some (.tup [.str kFault, .int (o : Int), .str (msg why)]) → Q (.ref p) H') ∧ (faultAt b a (l.drop a) = none → ∀ H', Same H H' → Q .non H')
theorem okTextFault {f fC : Addr} {fd fdC : FuncData} (F : Fun K "text_fault" "text_fault" sTextFault f fd) (B : Bl mg) (T : Tx K w mg wA lA eA) (Fis_character : Fun K "is_character" "is_character" sIsCharacter fC fdC) (bis_character : Binds K fdC ["sign"] []) (gis_character : mg "is_character" = some (.ref fC)) :
    FnOk P w K mg base CX0 2 f fd ["text", "start", "at"] spTextFault := by
  have Gis_character : FnOk P w K mg base CX0 1 fC fdC ["sign"] spIsCharacter := okIsCharacter Fis_character B T
  obtain ⟨es, n, DE⟩ := T.dE
  refine F.ok scTextFault (fun vs H Q E h => ?_) (fun cdv A outer s H vs Q E hr h => ?_)
  · obtain ⟨l, b, a, rfl, _⟩ := h
    rfl
  · obtain ⟨l, b, a, rfl, hl, q1, q2⟩ := h
    have hz := sizeLine_eq
    refine ⟨_, pss_cons (ps_set (i := 3) scTextFault.nd rfl (.inl rfl) (pe_slice sl_str (pv 0) (po_some (pv 2)) (po_some (pe_op op_add (pv 2) pe_int))))
      (pss_cons (ps_set (i := 4) scTextFault.nd rfl (.inl rfl) (pe_slice sl_str (pv 0) (po_some (pe_op op_add (pv 2) pe_int)) (po_some (pe_op op_add (pv 2) pe_int))))
      (pss_cons (ps_if (PW.pt (pw_or (pt_cmpR op_in_seq (pv 3) (pe_tup (pa_cons pe_str (pa_cons pe_str pa_nil))) (by rfl)) (pw_or1 (PW.pt (pw_and (pt_cmpR op_eq (pv 3) pe_str (nomark _)) (pw_and1 (pt_cmpR op_eq (pv 4) pe_str (nomark _))))))))
        (pss_one (ps_ret (pe_tup (pa_cons pe_str (pa_cons (pv 1) (pa_cons pe_str pa_nil))))))
        pss_nil)
      (pss_cons (ps_if (PW.pt (pw_and (pt_cmpR op_eq (pv 3) pe_str (nomark _)) (pw_and1 (pt_cmpR (op_notIn_kd DE) (pv 4) (pe_gc (by rfl) T.gESCAPES) (by rfl)))))
        (pss_one (ps_ret (pe_tup (pa_cons pe_str (pa_cons (pv 2) (pa_cons pe_str pa_nil))))))
        pss_nil)
      (pss_cons (ps_if (pt_not (pt_val (pe_call Gis_character (hr.mono (by decide)) (by rfl) gis_character Fis_character.kp bis_character .nil pass0 (pa_cons (pv 3) pa_nil))))
        (pss_one (ps_ret (pe_tup (pa_cons pe_str (pa_cons (pv 2) (pa_cons (pe_gc (by rfl) T.gNOT_ALLOWED) pa_nil))))))
        pss_nil)
      (pss_one (ps_ret pe_non)))))), ?_⟩
    -- sign = text[at:at + 1]
    refine ⟨_, rfl, _, rfl, _, rfl, _, rfl, _, _, rfl, rfl, _, rfl, S l, rfl, (by walk_at "sz"), ?_⟩
    -- after = text[at + 1:at + 2]
    refine ⟨_, rfl, _, rfl, _, _, rfl, rfl, _, rfl, _, rfl, _, _, rfl, rfl, _, rfl, S l, rfl, (by walk_at "sz"), ?_⟩
    dsimp only
    rw [cutA, cutA2]
    -- if sign in ('', '\n') or (sign == '\\' and after == ''):
    refine ⟨_, rfl, (by show 2 ≤ sizeLine; decide), fun p1 n1 => ?_⟩
    have s1 : Same H (upd H p1 (.tup [V.str "", V.str "\n"])) := same_upd n1
    have ei : inV (.str (S ((l.drop a).take 1))) [V.str "", V.str "\n"] = decide ((l.drop a).take 1 ∈ [[], [10]]) := by
      rw [show ([V.str "", V.str "\n"] : List V) = [[], [10]].map fun l => V.str (S l) by decide +kernel, inV_codes]
    have e92 : (("\\" : Str)) = S [92] := by decide +kernel
    have e0 : (("" : Str)) = S [] := by decide +kernel
    have bad : ∀ (σ : L2.St) (o why : Nat) (x : V) (H1 : Hp), faultAt b a (l.drop a) = some (o, why) → x = .str (msg why) → Same H H1 → ∀ p2, H1 p2 = none → Q (.ref p2) (upd H1 p2 (.tup [.str "fault", .int (o : Int), x])) := fun σ o why x H1 hf hx hs p2 n2 => by
      subst hx
      exact q1 o why hf _ p2 (hs.trans (same_upd n2)) (hs.free n2) upd_same
    refine ⟨p1, _, rfl, .inr (SqT.of upd_same), rfl, rfl, _, rfl, ?_⟩
    show if (inV (.str (S ((l.drop a).take 1))) [V.str "", V.str "\n"]) = true then _ else _
    rw [ei]
    refine ite2 (fun e => iteT ?_) (fun e => ?_)
    · refine ⟨_, rfl, (by show 3 ≤ sizeLine; decide), fun p2 n2 => ?_⟩
      refine bad [] b 0 _ _ ?_ rfl s1 p2 n2
      cases hd : l.drop a with
      | nil => rfl
      | cons c r =>
        rw [hd] at e
        have h10 : c = 10 := by
          have := of_decide_eq_true e
          simpa using this
        show (if c = 10 then _ else _) = _
        rw [if_pos h10]
    · obtain ⟨c, r, hd⟩ : ∃ c r, l.drop a = c :: r := by
        cases hd : l.drop a with
        | nil =>
          rw [hd] at e
          exact absurd rfl e
        | cons c r => exact ⟨c, r, rfl⟩
      obtain ⟨hlt, hg, hd2⟩ := drop_at hd
      have h10 : ¬ c = 10 := fun z => e (by rw [hd, z]; rfl)
      have et : (l.drop a).take 1 = [c] := by rw [hd]; rfl
      rw [et, hd2]
      have dn : (PySem.W.nsIn K eA (S (r.take 1))) = PySem.W.nsIn K eA (S (r.take 1)) := rfl
      by_cases h92 : c = 92
      · subst h92
        have d1 : decide (V.str (S [92]) = V.str "\\") = true := decide_eq_true (by rw [e92])
        refine ⟨_, rfl, rfl, _, rfl, ?_⟩
        rw [d1]
        refine iteT ⟨_, rfl, rfl, _, rfl, ?_⟩
        cases r with
        | nil =>
          rw [show decide (V.str (S (List.take 1 ([] : List Nat))) = V.str "") = true from decide_eq_true (by rw [e0]; rfl)]
          refine iteT ⟨_, rfl, (by show 3 ≤ sizeLine; decide), fun p2 n2 => ?_⟩
          exact bad [] b 0 _ _ (by rw [hd]; rfl) rfl s1 p2 n2
        | cons d r2 =>
          rw [show decide (V.str (S (List.take 1 (d :: r2))) = V.str "") = false from decide_eq_false (fun z => by
            have := V.str.inj z
            rw [e0] at this
            cases S_inj this)]
          refine iteF ?_
          have hf : faultAt b a (l.drop a) = if esc d = none then some (a, 1) else none := by
            rw [hd]
            rfl
          obtain ⟨r0, en, hs, hn⟩ := T.nE d
          -- if sign == '\\' and after not in ESCAPES:
          refine ⟨_, rfl, rfl, _, rfl, ?_⟩
          rw [d1]
          refine iteT ⟨_, rfl, S [d], r0, rfl, rfl, en, _, rfl, ?_⟩
          cases he : esc d with
          | none =>
            rw [hn he]
            refine iteT ⟨_, rfl, (by show 3 ≤ sizeLine; decide), fun p2 n2 => ?_⟩
            exact bad [] a 1 _ _ (by rw [hf, if_pos he]) rfl s1 p2 n2
          | some x =>
            obtain ⟨u, eu, _⟩ := hs x he
            rw [eu]
            refine iteF ?_
            refine ⟨_, rfl, 92, rfl, _, rfl, iteF ?_⟩
            exact q2 (by rw [hf, he]; rfl) _ s1
      · have d1 : decide (V.str (S [c]) = V.str "\\") = false := decide_eq_false (fun z => by
          have := V.str.inj z
          rw [e92] at this
          injection S_inj this with t
          exact h92 t)
        refine ⟨_, rfl, rfl, _, rfl, ?_⟩
        rw [d1]
        refine iteF (iteF ⟨_, rfl, rfl, _, rfl, ?_⟩)
        rw [d1]
        refine iteF (iteF ⟨_, rfl, c, rfl, _, rfl, ?_⟩)
        have hf : faultAt b a (l.drop a) = if Lx.isChr c = true then none else some (a, 2) := by
          rw [hd]
          show (if c = 10 then _ else if c = 92 then _ else _) = _
          rw [if_neg h10, if_neg h92]
        cases hc : Lx.isChr c with
        | true => exact iteF (q2 (by rw [hf, hc]; rfl) _ s1)
        | false =>
          refine iteT ⟨_, rfl, (by show 3 ≤ sizeLine; decide), fun p2 n2 => ?_⟩
          exact bad [] a 2 _ _ (by rw [hf, hc]; rfl) rfl s1 p2 n2
end
end My
/-! ### text_token, token_at, tokens_of -/
namespace My
open PySem L2 SX
open C8 (pss_cut tCut cutS_slice pe_gc)
theorem join_signs (v : List Nat) : Txt.join (S []) (v.map fun c => S [c]) = S v := by
  have e : (v.map fun c => S [c]) = (v.map fun c => [c]).map S := by rw [List.map_map]; rfl
  rw [e, join_S]
  congr 1
  induction v with
  | nil => rfl
  | cons c v ih =>
    cases v with
    | nil => rfl
    | cons d v =>
      show [c] ++ [] ++ TL.joinL [] ((d :: v).map fun c => [c]) = c :: d :: v
      rw [ih (by rw [List.map_map]; rfl)]
      rfl
theorem sum_ones : ∀ v : List Nat, ((v.map fun c => S [c]).map (·.length)).sum = v.length
  | [] => rfl
  | c :: v => by
    rw [List.map_cons, List.map_cons, List.sum_cons, sum_ones v]
    show 1 + v.length = v.length + 1
    omega
theorem scan_len {start : Nat} : ∀ (n : Nat) (a : Nat) (acc r v : List Nat) (e : Nat), r.length ≤ n → Lx.scanT start a acc r = .ok v e → v.length ≤ acc.length + r.length ∧ a < e ∧ e ≤ a + r.length := by
  intro n
  induction n with
  | zero =>
    intro a acc r v e hn h
    cases r with
    | nil => cases h
    | cons c r => simp at hn
  | succ n ih =>
    intro a acc r v e hn h
    cases r with
    | nil => cases h
    | cons c r =>
      rw [List.length_cons] at hn
      by_cases h34 : c = 34
      · subst h34
        rw [Lx.scanT.eq_def] at h
        simp at h
        obtain ⟨rfl, rfl⟩ := h
        exact ⟨Nat.le_add_right _ _, by omega, by rw [List.length_cons]; omega⟩
      · cases hf : faultAt start a (c :: r) with
        | some f =>
          obtain ⟨o, why⟩ := f
          rw [scan_fault (by simpa using h34) hf] at h
          cases h
        | none =>
          by_cases h92 : c = 92
          · subst h92
            obtain ⟨d, r2, x, rfl, he⟩ := fault_esc hf
            rw [scan_esc he] at h
            rw [List.length_cons] at hn
            obtain ⟨h1, h2, h3⟩ := ih _ _ _ _ _ (by omega) h
            rw [List.length_append, List.length_singleton] at h1
            rw [List.length_cons, List.length_cons]
            exact ⟨by omega, by omega, by omega⟩
          · rw [scan_plain h34 h92 hf] at h
            obtain ⟨h1, h2, h3⟩ := ih _ _ _ _ _ (by omega) h
            rw [List.length_append, List.length_singleton] at h1
            rw [List.length_cons]
            exact ⟨by omega, by omega, by omega⟩
section
variable {P : Program} {w : World} {K : PySem.W.Frag} {mg : Str → Option Value} {base : Heap} {wA lA eA : Addr}
local macro_rules | `(tactic| walk_at "sz") => `(tactic| first | assumption | (simp only [S_len, List.length_append, List.length_cons, List.length_nil, List.length_take, List.length_drop] <;> omega))
/-! ### text_token -/
abbrev sTextToken : Stmt := top 17
theorem scTextToken : FnScope ["text", "start", "signs", "at", "fault"] ["text", "start"] (defScope sTextToken) := ⟨rfl, rfl, rfl, by decide +kernel, rfl, by decide +kernel, by decide +kernel⟩
def spTextToken : Sp := fun vs H Q _ => ∃ (l : List Nat) (a : Nat), vs = [.str (S l), .int (a : Int)] ∧ l.length ≤ 1000000 ∧ ∀ H' p q n, Two H H' p q (textT a (l.drop (a + 1))).1 n → (fin (textT a (l.drop (a + 1))).1 = false → n = (textT a (l.drop (a + 1))).2) → Q (.ref p) H'
theorem okTextToken {f fF fC : Addr} {fd fdF fdC : FuncData} (F : Fun K "text_token" "text_token" sTextToken f fd) (B : Bl mg) (T : Tx K w mg wA lA eA) (Ftext_fault : Fun K "text_fault" "text_fault" sTextFault fF fdF) (btext_fault : Binds K fdF ["text", "start", "at"] []) (gtext_fault : mg "text_fault" = some (.ref fF))
    (Fis_character : Fun K "is_character" "is_character" sIsCharacter fC fdC) (bis_character : Binds K fdC ["sign"] []) (gis_character : mg "is_character" = some (.ref fC)) :
    FnOk P w K mg base CX0 3 f fd ["text", "start"] spTextToken := by
  have Gtext_fault : FnOk P w K mg base CX0 2 fF fdF ["text", "start", "at"] spTextFault := okTextFault Ftext_fault B T Fis_character bis_character gis_character
  obtain ⟨es, n, DE⟩ := T.dE
  refine F.ok scTextToken (fun vs H Q E h => ?_) (fun cdv A outer s H vs Q E hr h => ?_)
  · obtain ⟨l, a, rfl, _⟩ := h
    rfl
  · obtain ⟨l, a, rfl, hl, q⟩ := h
    have hz := sizeLine_eq
    refine ⟨_, pss_cons (ps_set (i := 2) scTextToken.nd rfl (.inl rfl) (pe_lst pa_nil))
      (pss_cons (ps_set (i := 3) scTextToken.nd rfl (.inl rfl) (pe_op op_add (pv 1) pe_int))
      (pss_cons (ps_while PassesOwn.never (pt_cmpR op_ne (pe_slice sl_str (pv 0) (po_some (pv 3)) (po_some (pe_op op_add (pv 3) pe_int))) pe_str (nomark _))
        (pss_cons (ps_set (i := 4) scTextToken.nd rfl (.inl rfl) (pe_call Gtext_fault (hr.mono (by decide)) (by rfl) gtext_fault Ftext_fault.kp btext_fault .nil pass0 (pa_cons (pv 0) (pa_cons (pv 1) (pa_cons (pv 3) pa_nil)))))
        (pss_cons (ps_if (pt_cmpR op_notN (pv 4) pe_non (nomark _))
          (pss_one (ps_ret (pe_tup (pa_cons (pv 4) (pa_cons (pv 3) pa_nil)))))
          pss_nil)
        (pss_one (ps_if (pt_cmpR op_eq (pe_ix ix_str (pv 0) (pv 3) (fun _ _ => rfl)) pe_str (nomark _))
          (pss_cons (ps_expr (pe_bm PySem.F.plainAttrs_list PySem.F.slot_list_append PySem.F.type_list_append mt_append (pv 2) (pa_cons (pe_ix ix_kdict (pe_gc (by rfl) T.gESCAPES) (pe_ix ix_str (pv 0) (pe_op op_add (pv 3) pe_int) (fun _ _ => rfl)) (fun _ _ => rfl)) pa_nil)))
          (pss_one (ps_aug (i := 3) scTextToken.nd rfl (.inl rfl) pe_int ip_add)))
          (pss_cons (ps_expr (pe_bm PySem.F.plainAttrs_list PySem.F.slot_list_append PySem.F.type_list_append mt_append (pv 2) (pa_cons (pe_ix ix_str (pv 0) (pv 3) (fun _ _ => rfl)) pa_nil)))
          (pss_one (ps_aug (i := 3) scTextToken.nd rfl (.inl rfl) pe_int ip_add))))))))
      (pss_one (ps_ret (pe_tup (pa_cons (pe_tup (pa_cons pe_str (pa_cons (pv 1) (pa_cons (pe_join pe_str (pv 2)) pa_nil)))) (pa_cons (pe_op op_add (pv 3) pe_int) pa_nil))))))), ?_⟩
    have e34 : (("\"" : Str)) = S [34] := by decide +kernel
    have e92 : (("\\" : Str)) = S [92] := by decide +kernel
    have e0 : (("" : Str)) = S [] := by decide +kernel
    -- signs = []
    refine ⟨(by show 0 ≤ sizeLine; decide), fun p1 n1 => ?_⟩
    -- at = start + 1
    refine ⟨_, rfl, _, _, rfl, rfl, ?_⟩
    have s1 : Same H (upd H p1 (.lst [])) := same_upd n1
    -- the loop
    refine ⟨fun m σ H' => ∃ (b : Nat) (acc : List Nat) (y : Option V), σ = [some (.str (S l)), some (.int (a : Int)), some (.ref p1), some (.int (b : Int)), y] ∧ Same H H' ∧ H' p1 = some (.lst ((acc.map fun c => S [c]).map V.str)) ∧ Lx.scanT a b acc (l.drop b) = Lx.scanT a (a + 1) [] (l.drop (a + 1)) ∧ acc.length ≤ b ∧ m = l.length - b,
      ⟨_, a + 1, [], none, rfl, s1, upd_same, rfl, Nat.zero_le _, rfl⟩, ?_⟩
    rintro m σ H' ⟨b, acc, y, rfl, s2, e1, hs, hab, rfl⟩
    refine ⟨_, rfl, _, rfl, _, rfl, _, rfl, _, _, rfl, rfl, _, rfl, S l, rfl, (by walk_at "sz"), rfl, _, rfl, ?_⟩
    dsimp only
    rw [cutA, e34]
    refine ite2 (fun e => ?_) (fun e => ?_)
    · have h34 : (l.drop b).head? ≠ some 34 := fun z => by
        cases hd : l.drop b with
        | nil =>
          rw [hd] at z
          cases z
        | cons c r =>
          rw [hd] at z e
          have : c = 34 := Option.some.inj z
          subst this
          exact absurd e (by
            rw [show decide (V.str (S (List.take 1 (34 :: r))) = V.str (S [34])) = true from decide_eq_true rfl]
            decide)
      refine ⟨fun σ' H1 => ∃ (b' : Nat) (acc : List Nat) (y : Option V), σ' = [some (.str (S l)), some (.int (a : Int)), some (.ref p1), some (.int (b' : Int)), y] ∧ Same H H1 ∧ H1 p1 = some (.lst ((acc.map fun c => S [c]).map V.str)) ∧ Lx.scanT a b' acc (l.drop b') = Lx.scanT a (a + 1) [] (l.drop (a + 1)) ∧ acc.length ≤ b' ∧ b < b' ∧ b < l.length, ?_, ?_⟩
      · rintro σ' H1 ⟨b', acc', y', rfl, h1, h2, h3, h4, h5, h6⟩
        exact ⟨_, by omega, b', acc', y', rfl, h1, h2, h3, h4, rfl⟩
      -- fault = text_fault(text, start, at)
      refine ⟨_, rfl, _, rfl, _, rfl, l, a, b, rfl, hl, fun o why hf H1 p2 s3 n2 e2 => ?_, fun hf H1 s3 => ?_⟩
      · -- return (fault, at)
        refine ⟨_, rfl, rfl, _, rfl, iteT ⟨_, rfl, _, rfl, (by show 2 ≤ sizeLine; decide), fun p3 n3 => ?_⟩⟩
        have es : textT a (l.drop (a + 1)) = ((kFault, o, .str (msg why)), a) := by
          unfold textT
          rw [← hs, scan_fault h34 hf]
        rw [es] at q
        exact q _ p3 p2 b (Two.of (s2.trans s3) (s2.free n2) e2 n3) (fun z => by cases z)
      · refine ⟨_, rfl, rfl, _, rfl, iteF ?_⟩
        obtain ⟨c, r, hd⟩ : ∃ c r, l.drop b = c :: r := by
          cases hd : l.drop b with
          | nil =>
            rw [hd] at hf
            cases hf
          | cons c r => exact ⟨c, r, rfl⟩
        obtain ⟨hlt, hg, hd2⟩ := drop_at hd
        have e1' : H1 p1 = some (.lst ((acc.map fun c => S [c]).map V.str)) := s3 _ _ e1
        have c34 : ¬ c = 34 := fun z => h34 (by rw [hd, z]; rfl)
        have hlen : ((acc.map fun c => S [c]).map V.str).length < sizeLine := by
          rw [List.length_map, List.length_map]
          omega
        have grow : ∀ x : Nat, Same H (upd H1 p1 (.lst (((acc.map fun c => S [c]).map V.str) ++ [.str (S [x])]))) := fun x b0 o0 h0 => by
          rw [upd_ne (ne_of_none h0 n1)]
          exact s3 _ _ (s2 _ _ h0)
        -- if text[at] == '\\':
        refine ⟨_, rfl, _, rfl, _, _, c, rfl, rfl, (by walk_at "sz"), atS l b c hg, rfl, _, rfl, ite2 (fun e3 => ?_) (fun e3 => ?_)⟩
        · have h92 : c = 92 := by
            have := V.str.inj (of_decide_eq_true e3)
            rw [e92] at this
            injection S_inj this
          subst h92
          rw [hd] at hf
          obtain ⟨d, r2, x, rfl, he⟩ := fault_esc hf
          obtain ⟨hlt2, hg2, hd3⟩ := drop_at hd2
          obtain ⟨r0, en, hsE, _⟩ := T.nE d
          obtain ⟨u, eu, ru⟩ := hsE x he
          rw [eu] at en
          -- signs.append(ESCAPES[text[at + 1]])
          refine ⟨_, rfl, .inl ⟨rfl, _, SqL.of e1'⟩, _, rfl, _, rfl, _, _, rfl, rfl, _, _, d, rfl, rfl, (by walk_at "sz"), at_ofN (j := b + 1) (by omega) hg2, eA, S [d], .str (S [x]), rfl, rfl, ⟨es, n, u, DE.at_, DE.lit, en, ru⟩, p1, _, _, rfl, rfl, e1', hlen, ?_⟩
          refine ⟨_, rfl, _, _, rfl, rfl, b + 2, acc ++ [x], _, rfl, grow x, ?_, ?_, ?_, by omega, hlt⟩
          · rw [upd_same, List.map_append, List.map_append]
            rfl
          · rw [← hs, hd, scan_esc he, hd3]
          · rw [List.length_append, List.length_singleton]
            omega
        · have h92 : ¬ c = 92 := fun z => e3 (decide_eq_true (by rw [e92, z]))
          rw [hd] at hf
          -- signs.append(text[at])
          refine ⟨_, rfl, .inl ⟨rfl, _, SqL.of e1'⟩, _, rfl, _, rfl, _, _, c, rfl, rfl, (by walk_at "sz"), atS l b c hg, p1, _, _, rfl, rfl, e1', hlen, ?_⟩
          refine ⟨_, rfl, _, _, rfl, rfl, b + 1, acc ++ [c], _, rfl, grow c, ?_, ?_, ?_, by omega, hlt⟩
          · rw [upd_same, List.map_append, List.map_append]
            rfl
          · rw [← hs, hd, scan_plain c34 h92 hf, hd2]
          · rw [List.length_append, List.length_singleton]
            omega
    · have hd : ∃ r, l.drop b = 34 :: r := by
        cases hd : l.drop b with
        | nil =>
          rw [hd] at e
          exact absurd (by rw [decide_eq_false (fun z => by cases S_inj (V.str.inj z))]; rfl) e
        | cons c r =>
          rw [hd] at e
          by_cases hc : c = 34
          · exact ⟨r, by rw [hc]⟩
          · exact absurd (by
              rw [decide_eq_false (fun z => by
                injection S_inj (V.str.inj z) with t
                exact hc t)]
              rfl) e
      obtain ⟨r, hd⟩ := hd
      have es : textT a (l.drop (a + 1)) = ((kText, a, .str (S acc)), b + 1) := by
        unfold textT
        rw [← hs, hd, Lx.scanT.eq_def]
        simp
      obtain ⟨hlt, _, _⟩ := drop_at hd
      rw [es] at q
      -- return (('text', start, ''.join(signs)), at + 1)
      refine ⟨_, rfl, ⟨_, rfl⟩, _, rfl, _, p1, acc.map fun c => S [c], rfl, rfl, .inl (SqL.of e1), ?_, ?_⟩
      · rw [sum_ones, List.length_map, e0, S_len]
        show acc.length + acc.length * 0 ≤ 16777216
        omega
      rw [e0, join_signs]
      refine ⟨(by show 3 ≤ sizeLine; decide), fun p2 n2 => ?_⟩
      refine ⟨_, rfl, _, _, rfl, rfl, (by show 2 ≤ sizeLine; decide), fun p3 n3 => ?_⟩
      exact q _ p3 p2 (b + 1) (Two.of (s2.trans (same_upd n2)) (s2.free n2) upd_same n3) (fun _ => rfl)
end
end My
/-! ### token_at, tokens_of -/
namespace My
open PySem L2 SX
open C8 (pss_cut tCut cutS_slice pe_gc)
theorem in_short (c : Nat) : decide (c ∈ (S shortC).cps.toList) = decide (c ∈ shortC) := rfl
theorem run_drop (p : Nat → Bool) (l : List Nat) (a : Nat) (h : a ≤ l.length) : a + Lx.run p (l.drop a) ≤ l.length := by
  have := Lx.run_le p (l.drop a)
  rw [List.length_drop] at this
  omega
theorem tokR_le {l : List Nat} {a n : Nat} {t : Tk} (ha : a ≤ l.length) (h : tokR a (l.drop a) = (t, n)) (hf : fin t = false) : n ≤ l.length := by
  cases hd : l.drop a with
  | nil =>
    rw [hd] at h
    cases h
    exact ha
  | cons c r =>
    obtain ⟨hlt, hg, hd2⟩ := drop_at hd
    rw [hd] at h
    dsimp only [tokR] at h
    by_cases h1 : Lx.isLet c = true
    · rw [if_pos h1, ← hd] at h
      have : n = a + Lx.run Lx.isWc (l.drop a) := (congrArg Prod.snd h).symm
      rw [this]
      exact run_drop _ _ _ ha
    · rw [if_neg h1] at h
      by_cases h2 : Lx.isDig c = true
      · rw [if_pos h2, ← hd] at h
        unfold numT at h
        by_cases h300 : 300 < (strip ((l.drop a).take (Lx.run Lx.isDig (l.drop a)))).length
        · have h' := (if_pos h300).symm.trans h
          cases h'
          exact ha
        · have h' := (if_neg h300).symm.trans h
          cases h'
          exact run_drop _ _ _ ha
      · rw [if_neg h2] at h
        by_cases h3 : c = 34
        · rw [if_pos h3] at h
          unfold textT at h
          cases hs : Lx.scanT a (a + 1) [] r with
          | ok v e =>
            rw [hs] at h
            cases h
            obtain ⟨_, _, h5⟩ := scan_len _ _ _ _ _ _ (Nat.le_refl _) hs
            have : r.length = l.length - (a + 1) := by rw [← hd2, List.length_drop]
            omega
          | bad o why =>
            rw [hs] at h
            cases h
            cases hf
        · rw [if_neg h3] at h
          by_cases h4 : isLong ((c :: r).take 2) = true
          · rw [if_pos h4] at h
            cases h
            cases r with
            | nil =>
              exfalso
              have h5 : isLong [c] = true := h4
              unfold isLong at h5
              rw [show longV = [[61, 61], [33, 61], [60, 61], [62, 61]].map fun l => V.str (S l) by decide +kernel, inV_codes] at h5
              simp at h5
            | cons d r2 =>
              have := drop_at hd2
              omega
          · rw [if_neg h4] at h
            by_cases h5 : c ∈ shortC
            · rw [if_pos h5] at h
              cases h
              omega
            · rw [if_neg h5] at h
              cases h
              exact ha
section
variable {P : Program} {w : World} {K : PySem.W.Frag} {mg : Str → Option Value} {base : Heap} {wA lA eA : Addr}
local macro_rules | `(tactic| walk_at "sz") => `(tactic| first | assumption | (simp only [S_len, List.length_append, List.length_cons, List.length_nil, List.length_take, List.length_drop] <;> omega))
/-- the defs of the lexer, where they stand -/
structure Lex (K : PySem.W.Frag) (mg : Str → Option Value) (aTok aGap aCom aAt aRun aName aNum aText aFlt aChr : Addr) (dTok dGap dCom dAt dRun dName dNum dText dFlt dChr : FuncData) : Prop where
  fTok : Fun K "tokens_of" "tokens_of" (top 10) aTok dTok
  bTok : Binds K dTok ["text"] []
  gTok : mg "tokens_of" = some (.ref aTok)
  fGap : Fun K "gaps_end" "gaps_end" sGapsEnd aGap dGap
  bGap : Binds K dGap ["text", "at"] []
  gGap : mg "gaps_end" = some (.ref aGap)
  fCom : Fun K "comment_end" "comment_end" sCommentEnd aCom dCom
  bCom : Binds K dCom ["text", "at"] []
  gCom : mg "comment_end" = some (.ref aCom)
  fAt : Fun K "token_at" "token_at" (top 13) aAt dAt
  bAt : Binds K dAt ["text", "at"] []
  gAt : mg "token_at" = some (.ref aAt)
  fRun : Fun K "run_end" "run_end" sRunEnd aRun dRun
  bRun : Binds K dRun ["text", "at", "signs"] []
  gRun : mg "run_end" = some (.ref aRun)
  fName : Fun K "name_token" "name_token" sNameToken aName dName
  bName : Binds K dName ["text", "at"] []
  gName : mg "name_token" = some (.ref aName)
  fNum : Fun K "number_token" "number_token" sNumberToken aNum dNum
  bNum : Binds K dNum ["text", "at"] []
  gNum : mg "number_token" = some (.ref aNum)
  fText : Fun K "text_token" "text_token" sTextToken aText dText
  bText : Binds K dText ["text", "start"] []
  gText : mg "text_token" = some (.ref aText)
  fFlt : Fun K "text_fault" "text_fault" sTextFault aFlt dFlt
  bFlt : Binds K dFlt ["text", "start", "at"] []
  gFlt : mg "text_fault" = some (.ref aFlt)
  fChr : Fun K "is_character" "is_character" sIsCharacter aChr dChr
  bChr : Binds K dChr ["sign"] []
  gChr : mg "is_character" = some (.ref aChr)
variable {aTok aGap aCom aAt aRun aName aNum aText aFlt aChr : Addr} {dTok dGap dCom dAt dRun dName dNum dText dFlt dChr : FuncData}
abbrev sTokenAt : Stmt := top 13
theorem scTokenAt : FnScope ["text", "at", "sign"] ["text", "at"] (defScope sTokenAt) := ⟨rfl, rfl, rfl, by decide +kernel, rfl, by decide +kernel, by decide +kernel⟩
def spTokenAt : Sp := fun vs H Q _ => ∃ (l : List Nat) (a : Nat), vs = [.str (S l), .int (a : Int)] ∧ a ≤ l.length ∧ l.length ≤ 1000000 ∧ ∀ H' p q n, Two H H' p q (tokR a (l.drop a)).1 n → (fin (tokR a (l.drop a)).1 = false → n = (tokR a (l.drop a)).2) → Q (.ref p) H'
theorem okTokenAt (X : Lex K mg aTok aGap aCom aAt aRun aName aNum aText aFlt aChr dTok dGap dCom dAt dRun dName dNum dText dFlt dChr) (B : Bl mg) (T : Tx K w mg wA lA eA) : FnOk P w K mg base CX0 4 aAt dAt ["text", "at"] spTokenAt := by
  have Gname_token : FnOk P w K mg base CX0 2 aName dName ["text", "at"] spNameToken := okNameToken X.fName B T X.fRun X.bRun X.gRun
  have Gnumber_token : FnOk P w K mg base CX0 2 aNum dNum ["text", "at"] spNumberToken := okNumberToken X.fNum B T X.fRun X.bRun X.gRun
  have Gtext_token : FnOk P w K mg base CX0 3 aText dText ["text", "start"] spTextToken := okTextToken X.fText B T X.fFlt X.bFlt X.gFlt X.fChr X.bChr X.gChr
  refine X.fAt.ok scTokenAt (fun vs H Q E h => ?_) (fun cdv A outer s H vs Q E hr h => ?_)
  · obtain ⟨l, a, rfl, _⟩ := h
    rfl
  · obtain ⟨l, a, rfl, ha, hl, q⟩ := h
    have hz := sizeLine_eq
    have hL : (S l).length = l.length := S_len l
    refine ⟨_, pss_cons (ps_if (pt_cmpR op_eq (pv 1) (pe_callB call_len_str (by rfl) B.len PySem.boot_len (pa_cons (pv 0) pa_nil)) (nomark _))
        (pss_one (ps_ret (pe_tup (pa_cons (pe_tup (pa_cons pe_str (pa_cons (pv 1) (pa_cons pe_non pa_nil)))) (pa_cons (pv 1) pa_nil)))))
        pss_nil)
      (pss_cons (ps_set (i := 2) scTokenAt.nd rfl (.inl rfl) (pe_ix ix_str (pv 0) (pv 1) (fun _ _ => rfl)))
      (pss_cons (ps_if (pt_cmpR op_in_sign (pv 2) (pe_gc (by rfl) T.gLETTERS) (by rfl))
        (pss_one (ps_ret (pe_call Gname_token (hr.mono (by decide)) (by rfl) X.gName X.fName.kp X.bName .nil pass0 (pa_cons (pv 0) (pa_cons (pv 1) pa_nil)))))
        pss_nil)
      (pss_cons (ps_if (pt_cmpR op_in_sign (pv 2) (pe_gc (by rfl) T.gDIGITS) (by rfl))
        (pss_one (ps_ret (pe_call Gnumber_token (hr.mono (by decide)) (by rfl) X.gNum X.fNum.kp X.bNum .nil pass0 (pa_cons (pv 0) (pa_cons (pv 1) pa_nil)))))
        pss_nil)
      (pss_cons (ps_if (pt_cmpR op_eq (pv 2) pe_str (nomark _))
        (pss_one (ps_ret (pe_call Gtext_token (hr.mono (by decide)) (by rfl) X.gText X.fText.kp X.bText .nil pass0 (pa_cons (pv 0) (pa_cons (pv 1) pa_nil)))))
        pss_nil)
      (pss_cons (ps_if (pt_cmpR op_in_seq (pe_slice sl_str (pv 0) (po_some (pv 1)) (po_some (pe_op op_add (pv 1) pe_int))) (pe_gc (by rfl) T.gLONG_SIGNS) (by rfl))
        (pss_one (ps_ret (pe_tup (pa_cons (pe_tup (pa_cons pe_str (pa_cons (pv 1) (pa_cons (pe_slice sl_str (pv 0) (po_some (pv 1)) (po_some (pe_op op_add (pv 1) pe_int))) pa_nil)))) (pa_cons (pe_op op_add (pv 1) pe_int) pa_nil)))))
        pss_nil)
      (pss_cons (ps_if (pt_cmpR op_in_sign (pv 2) (pe_gc (by rfl) T.gSHORT_SIGNS) (by rfl))
        (pss_one (ps_ret (pe_tup (pa_cons (pe_tup (pa_cons pe_str (pa_cons (pv 1) (pa_cons (pv 2) pa_nil)))) (pa_cons (pe_op op_add (pv 1) pe_int) pa_nil)))))
        pss_nil)
      (pss_one (ps_ret (pe_tup (pa_cons (pe_tup (pa_cons pe_str (pa_cons (pv 1) (pa_cons (pe_gc (by rfl) T.gNOT_ALLOWED) pa_nil)))) (pa_cons (pv 1) pa_nil))))))))))), ?_⟩
    -- if at == len(text):
    refine ⟨_, rfl, _, rfl, S l, rfl, (by walk_at "sz"), rfl, _, rfl, ite2 (fun e => ?_) (fun e => ?_)⟩
    · have hd : l.drop a = [] := by
        have := V.int.inj (of_decide_eq_true e)
        exact List.drop_eq_nil_of_le (by omega)
      rw [hd] at q
      -- return (('end', at, None), at)
      refine ⟨_, rfl, (by show 3 ≤ sizeLine; decide), fun p1 n1 => ?_⟩
      refine ⟨_, rfl, (by show 2 ≤ sizeLine; decide), fun p2 n2 => ?_⟩
      exact q _ p2 p1 a (Two.of (t := (kEnd, a, .non)) (same_upd n1) n1 upd_same n2) (fun _ => rfl)
    have hlt : a < l.length := by
      have : ¬ a = l.length := fun z => e (decide_eq_true (by rw [hL, z]))
      omega
    have hd := drop_cons hlt
    generalize ec : l[a] = c at hd
    have hg : l[a]? = some c := by rw [List.getElem?_eq_getElem hlt, ec]
    -- sign = text[at]
    refine ⟨_, rfl, _, rfl, _, _, c, rfl, rfl, (by walk_at "sz"), atS l a c hg, ?_⟩
    -- if sign in LETTERS:
    refine ⟨_, rfl, _, _, rfl, rfl, _, rfl, ite2 (fun e1 => ?_) (fun e1 => ?_)⟩
    · have h1 : Lx.isLet c = true := by rw [← in_let]; exact e1
      have et : tokR a (l.drop a) = nameT a (l.drop a) := by
        rw [hd]
        exact if_pos h1
      rw [et] at q
      exact ⟨_, rfl, _, rfl, l, a, rfl, ha, hl, fun H' p1 p2 t => q H' p1 p2 _ t (fun _ => rfl)⟩
    have h1 : ¬ Lx.isLet c = true := by rw [← in_let]; exact e1
    -- if sign in DIGITS:
    refine ⟨_, rfl, _, _, rfl, rfl, _, rfl, ite2 (fun e2 => ?_) (fun e2 => ?_)⟩
    · have h2 : Lx.isDig c = true := by rw [← in_dig]; exact e2
      have et : tokR a (l.drop a) = numT a (l.drop a) := by
        rw [hd]
        exact (if_neg h1).trans (if_pos h2)
      rw [et] at q
      exact ⟨_, rfl, _, rfl, l, a, rfl, ha, hl, fun H' p1 p2 t => q H' p1 p2 _ t (fun _ => rfl)⟩
    have h2 : ¬ Lx.isDig c = true := by rw [← in_dig]; exact e2
    have e34 : (("\"" : Str)) = S [34] := by decide +kernel
    -- if sign == '"':
    refine ⟨_, rfl, rfl, _, rfl, ite2 (fun e3 => ?_) (fun e3 => ?_)⟩
    · have h3 : c = 34 := by
        have := V.str.inj (of_decide_eq_true e3)
        rw [e34] at this
        injection S_inj this
      have et : tokR a (l.drop a) = textT a (l.drop (a + 1)) := by
        rw [hd]
        exact (if_neg h1).trans ((if_neg h2).trans (if_pos h3))
      rw [et] at q
      exact ⟨_, rfl, _, rfl, l, a, rfl, hl, fun H' p1 p2 n t f => q H' p1 p2 n t f⟩
    have h3 : ¬ c = 34 := fun z => e3 (decide_eq_true (by rw [e34, z]))
    -- if text[at:at + 2] in LONG_SIGNS:
    refine ⟨_, rfl, _, rfl, _, rfl, _, rfl, _, _, rfl, rfl, _, rfl, S l, rfl, (by walk_at "sz"), ?_⟩
    dsimp only
    rw [cutA3]
    refine ⟨lA, _, rfl, .inr (T.tL _), rfl, rfl, _, rfl, ite2 (fun e4 => ?_) (fun e4 => ?_)⟩
    · have h4 : isLong ((l.drop a).take 2) = true := e4
      have et : tokR a (l.drop a) = ((kSign, a, .str (S ((l.drop a).take 2))), a + 2) := by
        rw [hd] at h4 ⊢
        exact (if_neg h1).trans ((if_neg h2).trans ((if_neg h3).trans (if_pos h4)))
      rw [et] at q
      -- return (('sign', at, text[at:at + 2]), at + 2)
      refine ⟨_, rfl, _, rfl, _, rfl, _, rfl, _, rfl, _, _, rfl, rfl, _, rfl, S l, rfl, (by walk_at "sz"), ?_⟩
      dsimp only
      rw [cutA3]
      refine ⟨(by show 3 ≤ sizeLine; decide), fun p1 n1 => ?_⟩
      refine ⟨_, rfl, _, _, rfl, rfl, (by show 2 ≤ sizeLine; decide), fun p2 n2 => ?_⟩
      exact q _ p2 p1 (a + 2) (Two.of (t := (kSign, a, .str (S ((l.drop a).take 2)))) (same_upd n1) n1 upd_same n2) (fun _ => rfl)
    have h4 : ¬ isLong ((l.drop a).take 2) = true := e4
    -- if sign in SHORT_SIGNS:
    refine ⟨_, rfl, _, _, rfl, rfl, _, rfl, ite2 (fun e5 => ?_) (fun e5 => ?_)⟩
    · have h5 : c ∈ shortC := of_decide_eq_true e5
      have et : tokR a (l.drop a) = ((kSign, a, .str (S [c])), a + 1) := by
        rw [hd] at h4 ⊢
        exact (if_neg h1).trans ((if_neg h2).trans ((if_neg h3).trans ((if_neg h4).trans (if_pos h5))))
      rw [et] at q
      -- return (('sign', at, sign), at + 1)
      refine ⟨_, rfl, _, rfl, (by show 3 ≤ sizeLine; decide), fun p1 n1 => ?_⟩
      refine ⟨_, rfl, _, _, rfl, rfl, (by show 2 ≤ sizeLine; decide), fun p2 n2 => ?_⟩
      exact q _ p2 p1 (a + 1) (Two.of (t := (kSign, a, .str (S [c]))) (same_upd n1) n1 upd_same n2) (fun _ => rfl)
    have h5 : ¬ c ∈ shortC := fun z => e5 (decide_eq_true z)
    have et : tokR a (l.drop a) = ((kFault, a, .str notAllowed), a) := by
      rw [hd] at h4 ⊢
      exact (if_neg h1).trans ((if_neg h2).trans ((if_neg h3).trans ((if_neg h4).trans (if_neg h5))))
    rw [et] at q
    -- return (('fault', at, NOT_ALLOWED), at)
    refine ⟨_, rfl, (by show 3 ≤ sizeLine; decide), fun p1 n1 => ?_⟩
    refine ⟨_, rfl, (by show 2 ≤ sizeLine; decide), fun p2 n2 => ?_⟩
    exact q _ p2 p1 a (Two.of (t := (kFault, a, .str notAllowed)) (same_upd n1) n1 upd_same n2) (fun _ => rfl)
/-! ### tokens_of -/
abbrev sTokensOf : Stmt := top 10
theorem scTokensOf : FnScope ["text", "tokens", "at", "token"] ["text"] (defScope sTokensOf) := ⟨rfl, rfl, rfl, by decide +kernel, rfl, by decide +kernel, by decide +kernel⟩
def tkV (t : Tk) : List V := [.str t.1, .int (t.2.1 : Int), t.2.2]
def Toks (H : Hp) : List Addr → List Tk → Prop := Paired fun q t => H q = some (.tup (tkV t))
theorem Toks.same {H H' : Hp} (s : Same H H') : ∀ {qs : List Addr} {ts : List Tk}, Toks H qs ts → Toks H' qs ts
  | _, _, .nil => .nil
  | _, _, .cons h t => .cons (s _ _ h) (Toks.same s t)
def spTokensOf : Sp := fun vs H Q _ => ∃ (l : List Nat) (ts : List Tk), vs = [.str (S l)] ∧ l.length ≤ 1000000 ∧ ts.length ≤ 1000000 ∧ Cut l 0 ts ∧ ∀ H' p qs, Same H H' → H p = none → H' p = some (.lst (qs.map V.ref)) → Toks H' qs ts → Q (.ref p) H'
theorem fin_in (t : Tk) : inV (.str t.1) [V.str "end", V.str "fault"] = fin t := by
  unfold inV fin eqV
  simp only [List.any_cons, List.any_nil, Bool.or_false]
  rw [Bool.eq_iff_iff]
  simp only [Bool.or_eq_true, beq_iff_eq]
  constructor
  · rintro (h | h)
    · exact .inl h.symm
    · exact .inr h.symm
  · rintro (h | h)
    · exact .inl h.symm
    · exact .inr h.symm
theorem okTokensOf (X : Lex K mg aTok aGap aCom aAt aRun aName aNum aText aFlt aChr dTok dGap dCom dAt dRun dName dNum dText dFlt dChr) (B : Bl mg) (T : Tx K w mg wA lA eA) : FnOk P w K mg base CX0 5 aTok dTok ["text"] spTokensOf := by
  have Gtoken_at : FnOk P w K mg base CX0 4 aAt dAt ["text", "at"] spTokenAt := okTokenAt X B T
  have Ggaps_end : FnOk P w K mg base CX0 2 aGap dGap ["text", "at"] spGapsEnd := okGapsEnd X.fGap B X.fCom X.bCom X.gCom
  refine X.fTok.ok scTokensOf (fun vs H Q E h => ?_) (fun cdv A outer s H vs Q E hr h => ?_)
  · obtain ⟨l, ts, rfl, _⟩ := h
    rfl
  · obtain ⟨l, ts, rfl, hl, hts, hc, q⟩ := h
    have hz := sizeLine_eq
    refine ⟨_, pss_cons (ps_set (i := 1) scTokensOf.nd rfl (.inl rfl) (pe_lst pa_nil))
      (pss_cons (ps_set (i := 2) scTokensOf.nd rfl (.inl rfl) pe_int)
      (pss_cons (ps_while PassesOwn.never (PW.pt (pw_or (pt_not (pt_truth (pv 1) (by intro _; rfl))) (pw_or1 (pt_cmpR op_notIn_seq (pe_ix ix_tup (pe_ix ix_list (pv 1) (pe_un un_neg pe_int) (fun _ _ => rfl)) pe_int (fun _ _ => rfl)) (pe_tup (pa_cons pe_str (pa_cons pe_str pa_nil))) (by rfl)))))
        (pss_cons (ps_asg (pe_call Gtoken_at (hr.mono (by decide)) (by rfl) X.gAt X.fAt.kp X.bAt .nil pass0 (pa_cons (pv 0) (pa_cons (pe_call Ggaps_end (hr.mono (by decide)) (by rfl) X.gGap X.fGap.kp X.bGap .nil pass0 (pa_cons (pv 0) (pa_cons (pv 2) pa_nil))) pa_nil))) (pg_tup (by rfl) (pgs_cons (pg_name (i := 3) scTokensOf.nd rfl (.inl rfl)) (pgs_cons (pg_name (i := 2) scTokensOf.nd rfl (.inl rfl)) pgs_nil))))
        (pss_one (ps_expr (pe_bm PySem.F.plainAttrs_list PySem.F.slot_list_append PySem.F.type_list_append mt_append (pv 1) (pa_cons (pv 3) pa_nil))))))
      (pss_one (ps_ret (pv 1))))), ?_⟩
    -- tokens = []
    refine ⟨(by show 0 ≤ sizeLine; decide), fun p1 n1 => ?_⟩
    -- the loop: what was cut, what is left
    refine ⟨fun m σ H' => ∃ (qs : List Addr) (done rest : List Tk) (b : Int) (y : Option V), σ = [some (.str (S l)), some (.ref p1), some (.int b), y] ∧ Same H H' ∧ H' p1 = some (.lst (qs.map V.ref)) ∧ Toks H' qs done ∧ done ++ rest = ts ∧ m = rest.length ∧
        ((rest = [] ∧ ∃ d t, done = d ++ [t] ∧ fin t = true) ∨ (∃ b' : Nat, b = (b' : Int) ∧ b' ≤ l.length ∧ Cut l b' rest ∧ (done = [] ∨ ∃ d t, done = d ++ [t] ∧ fin t = false))),
      ⟨_, [], [], ts, 0, none, rfl, same_upd n1, upd_same, .nil, rfl, rfl, .inr ⟨0, rfl, Nat.zero_le _, hc, .inl rfl⟩⟩, ?_⟩
    rintro m σ H' ⟨qs, done, rest, b, y, rfl, s1, e1, tk, ed, rfl, hW⟩
    have hqd : qs.length = done.length := Paired.length tk
    -- what the turn does
    have turn : ∀ H2, Same H' H2 → H2 p1 = some (.lst (qs.map V.ref)) → ∀ b' : Nat, b = (b' : Int) → b' ≤ l.length → Cut l b' rest →
        ∃ N : L2.St → Hp → Prop, (∀ σ' H3, N σ' H3 → ∃ m', m' < rest.length ∧ ∃ (qs : List Addr) (done rest : List Tk) (b : Int) (y : Option V), σ' = [some (.str (S l)), some (.ref p1), some (.int b), y] ∧ Same H H3 ∧ H3 p1 = some (.lst (qs.map V.ref)) ∧ Toks H3 qs done ∧ done ++ rest = ts ∧ m' = rest.length ∧
        ((rest = [] ∧ ∃ d t, done = d ++ [t] ∧ fin t = true) ∨ (∃ b' : Nat, b = (b' : Int) ∧ b' ≤ l.length ∧ Cut l b' rest ∧ (done = [] ∨ ∃ d t, done = d ++ [t] ∧ fin t = false)))) ∧
        tSeq (tAsg (tCall spTokenAt [] E (tCons (tVar 0) (tCons (tCall spGapsEnd [] E (tCons (tVar 0) (tCons (tVar 2) tNil))) tNil))) (gTup K 2 (gCons (gName 3) (gCons (gName 2) gNil)))) (tDrop (tBM K "list" rAppend (tVar 1) (tCons (tVar 3) tNil)))
          { nx := N, rt := Q, bk := tRet (tVar 1) ⟨fun _ _ => False, Q, fun _ _ => False, fun _ _ => False⟩, ct := N } [some (.str (S l)), some (.ref p1), some (.int b), y] H2 := by
      intro H2 s2 e2 b' hb hbl hcut
      subst hb
      refine ⟨_, fun σ' H3 h => h, ?_⟩
      have hgap : b' + Lx.gap (l.drop b') ≤ l.length := by
        have := Lx.gap_le false (l.drop b')
        rw [List.length_drop] at this
        have e : Lx.gapm false (l.drop b') = Lx.gap (l.drop b') := rfl
        omega
      refine ⟨_, rfl, _, rfl, _, rfl, l, b', rfl, hbl, hl, l, b' + Lx.gap (l.drop b'), rfl, hgap, hl, fun H3 p2 p3 n two hn => ?_⟩
      have e3 : H3 p1 = some (.lst (qs.map V.ref)) := two.same _ _ e2
      have hlen : (qs.map V.ref).length < sizeLine := by
        rw [List.length_map, hqd]
        have := congrArg List.length ed
        rw [List.length_append] at this
        omega
      refine ⟨p2, _, rfl, SqT.of two.ep, rfl, _, _, rfl, _, _, rfl, rfl, ?_⟩
      refine ⟨_, rfl, .inl ⟨rfl, _, SqL.of e3⟩, _, rfl, p1, _, _, rfl, rfl, e3, hlen, ?_⟩
      have hsame : ∀ o : HO, Same H (upd H3 p1 o) := fun o b0 o0 h0 => by
        rw [upd_ne (ne_of_none h0 n1)]
        exact two.same _ _ (s2 _ _ (s1 _ _ h0))
      have n31 : p3 ≠ p1 := fun z => by
        have := two.fq
        rw [z, e2] at this
        cases this
      have tk3 : ∀ o : HO, Toks (upd H3 p1 o) (qs ++ [p3]) (done ++ [(tokR (b' + Lx.gap (l.drop b')) (l.drop (b' + Lx.gap (l.drop b')))).1]) := fun o => by
        refine Paired.snoc ?_ ?_
        · have : ∀ {qs : List Addr} {ts : List Tk}, Toks H2 qs ts → (∀ q ∈ qs, q ≠ p1) → Toks (upd H3 p1 o) qs ts := by
            intro qs ts h
            induction h with
            | nil => exact fun _ => .nil
            | cons h t ih =>
              intro hq
              refine .cons ?_ (ih fun q hm => hq q (List.mem_cons_of_mem _ hm))
              rw [upd_ne (hq _ (List.mem_cons_self ..))]
              exact two.same _ _ h
          refine this (tk.same s2) fun q hm z => ?_
          have hx : ∀ {qs : List Addr} {ts : List Tk}, Toks H2 qs ts → ∀ q ∈ qs, ∃ t, H2 q = some (.tup (tkV t)) := by
            intro qs ts h
            induction h with
            | nil => exact fun q hm => by cases hm
            | cons h t ih =>
              intro q hm
              rcases List.mem_cons.mp hm with rfl | hm
              · exact ⟨_, h⟩
              · exact ih q hm
          obtain ⟨t, ht⟩ := hx (tk.same s2) q hm
          rw [z, e2] at ht
          cases ht
        · rw [upd_ne n31]
          exact two.eq
      have lst3 : (upd H3 p1 (.lst (qs.map V.ref ++ [.ref p3]))) p1 = some (.lst ((qs ++ [p3]).map V.ref)) := by
        rw [upd_same, List.map_append]
        rfl
      cases hcut with
      | last e f =>
        rw [e] at tk3
        exact ⟨0, by simp, qs ++ [p3], _, [], _, _, rfl, hsame _, lst3, tk3 _, (by rw [List.append_nil]; exact ed), rfl, .inl ⟨rfl, _, _, rfl, f⟩⟩
      | more e f h c =>
        rw [e] at tk3 hn
        refine ⟨_, ?_, qs ++ [p3], _, _, _, _, rfl, hsame _, lst3, tk3 _, (by rw [List.append_assoc]; exact ed), rfl, .inr ⟨_, ?_, h, c, .inr ⟨_, _, rfl, f⟩⟩⟩
        · rw [List.length_cons]
          omega
        · rw [hn f]
    -- the last token, looked at
    have look : ∀ d t, done = d ++ [t] → ∃ p3 rq, qs = rq ++ [p3] ∧ H' p3 = some (.tup (tkV t)) := by
      intro d t hdt
      rw [hdt] at tk
      have : ∀ {qs : List Addr} {d : List Tk}, Toks H' qs (d ++ [t]) → ∃ p3 rq, qs = rq ++ [p3] ∧ H' p3 = some (.tup (tkV t)) := by
        intro qs d
        induction d generalizing qs with
        | nil =>
          intro h
          cases h with
          | cons h t =>
            cases t
            exact ⟨_, [], rfl, h⟩
        | cons x d ih =>
          intro h
          cases h with
          | cons h t =>
            obtain ⟨p3, rq, e, h3⟩ := ih t
            exact ⟨p3, _ :: rq, by rw [e]; rfl, h3⟩
      exact this tk
    rcases hW with ⟨hr0, d, t, hdt, hft⟩ | ⟨b', hb, hbl, hcut, hlast⟩
    · -- the last one was cut: return tokens
      subst hr0
      obtain ⟨p3, rq, eq, h3⟩ := look d t hdt
      have hat : atI (qs.map V.ref) (-1) = some (V.ref p3) := by
        rw [eq, List.map_append]
        exact atI_last _ _
      refine ⟨_, rfl, true, .inl ⟨_, SqL.of e1, (by rw [eq]; cases rq <;> rfl)⟩, iteF ?_⟩
      refine ⟨_, rfl, 1, rfl, p1, _, _, _, rfl, rfl, SqL.of e1, hat, p3, _, 0, _, rfl, rfl, SqT.of h3, at_ofN (j := 0) rfl rfl, (by show 2 ≤ sizeLine; decide), fun p4 n4 => ?_⟩
      refine ⟨p4, _, rfl, .inr (SqT.of upd_same), rfl, rfl, _, rfl, ?_⟩
      show if (!inV (.str t.1) [V.str "end", V.str "fault"]) = true then _ else _
      rw [fin_in, hft]
      refine iteF ⟨_, rfl, ?_⟩
      refine q _ p1 qs (s1.trans (same_upd n4)) n1 ?_ ?_
      · rw [upd_ne (ne_of_none e1 n4)]
        exact e1
      · rw [List.append_nil] at ed
        rw [← ed]
        exact tk.same (same_upd n4)
    · rcases hlast with hd0 | ⟨d, t, hdt, hft⟩
      · have hq0 : qs = [] := by
          cases qs with
          | nil => rfl
          | cons x r =>
            rw [hd0] at hqd
            cases hqd
        refine ⟨_, rfl, false, .inl ⟨_, SqL.of e1, (by rw [hq0]; rfl)⟩, iteT ?_⟩
        exact turn H' (Same.refl _) e1 b' hb hbl hcut
      · obtain ⟨p3, rq, eq, h3⟩ := look d t hdt
        have hat : atI (qs.map V.ref) (-1) = some (V.ref p3) := by
          rw [eq, List.map_append]
          exact atI_last _ _
        refine ⟨_, rfl, true, .inl ⟨_, SqL.of e1, (by rw [eq]; cases rq <;> rfl)⟩, iteF ?_⟩
        refine ⟨_, rfl, 1, rfl, p1, _, _, _, rfl, rfl, SqL.of e1, hat, p3, _, 0, _, rfl, rfl, SqT.of h3, at_ofN (j := 0) rfl rfl, (by show 2 ≤ sizeLine; decide), fun p4 n4 => ?_⟩
        refine ⟨p4, _, rfl, .inr (SqT.of upd_same), rfl, rfl, _, rfl, ?_⟩
        show if (!inV (.str t.1) [V.str "end", V.str "fault"]) = true then _ else _
        rw [fin_in, hft]
        refine iteT ?_
        exact turn _ (same_upd n4) (by rw [upd_ne (ne_of_none e1 n4)]; exact e1) b' hb hbl hcut
end
end My
/-! ### the pieces of a text, and the gaps between them -/
namespace My
open PySem L2 SX
open C8 (pss_cut tCut cutS_slice pe_gc)
def wordsL : List (List Nat) := [[108, 101, 116], [102, 117, 110], [99, 108, 97, 115, 115], [101, 120, 116, 101, 110, 100, 115], [105, 102], [101, 108, 115, 101], [119, 104, 105, 108, 101], [102, 111, 114], [105, 110], [98, 114, 101, 97, 107], [99, 111, 110, 116, 105, 110, 117, 101], [114, 101, 116, 117, 114, 110], [116, 104, 114, 111, 119], [116, 114, 121], [99, 97, 116, 99, 104], [97, 110, 100], [111, 114], [110, 111, 116], [105, 115], [109, 111, 100], [116, 114, 117, 101], [102, 97, 108, 115, 101], [110, 117, 108, 108], [116, 104, 105, 115], [115, 117, 112, 101, 114]]
theorem wordsV_eq : wordsV = wordsL.map fun l => V.str (S l) := by decide +kernel
theorem isWord_eq (x : List Nat) : isWord x = decide (x ∈ wordsL) := by
  unfold isWord
  rw [wordsV_eq, inV_codes]
def longL : List (List Nat) := [[61, 61], [33, 61], [60, 61], [62, 61]]
theorem isLong_eq (x : List Nat) : isLong x = decide (x ∈ longL) := by
  unfold isLong
  rw [show longV = longL.map fun l => V.str (S l) by decide +kernel, inV_codes]
/-- may this sign stand directly behind the piece? -/
def okAfter (b : List Nat) (d : Nat) : Bool := !(Lx.isWc (b.getLastD 0) && Lx.isWc d) && (!(decide (b ∈ [[61], [60], [62]]) && decide (d = 61)) && !(decide (b = [47]) && decide (d = 47)))
def Fol (b rest : List Nat) : Prop := ∀ d, rest.head? = some d → okAfter b d = true
theorem Fol.nil (b : List Nat) : Fol b [] := fun d h => by cases h
theorem Fol.cons {b r : List Nat} {d : Nat} (h : okAfter b d = true) : Fol b (d :: r) := fun e he => by
  have : d = e := Option.some.inj he
  rw [← this]
  exact h
theorem strOk_S {l : List Nat} (h : ∀ c ∈ l, c < 1114112) : PyData.strOk (S l) = true := by
  unfold PyData.strOk
  rw [← Array.all_toList]
  exact List.all_eq_true.mpr fun c hc => decide_eq_true (h c hc)
theorem wc_small {c : Nat} (h : Lx.isWc c = true) : c < 1114112 := by
  unfold Lx.isWc Lx.isLet Lx.isDig at h
  simp at h
  omega
theorem chr_small {c : Nat} (h : Lx.isChr c = true) : c < 1114112 := by
  unfold Lx.isChr at h
  simp at h
  omega
theorem short_small : ∀ c ∈ shortC, c < 1114112 := by decide
theorem fin_no {k : Str} (h : (k == kEnd || k == kFault) = false) {x : Nat × V} : fin (k, x) = false := h
structure PieceOk (p : List Nat) (k : Str) (v : V) : Prop where
  gap0 : ∀ rest, Fol p rest → Lx.gap (p ++ rest) = 0
  tok : ∀ a rest, Fol p rest → tokR a (p ++ rest) = ((k, a, v), a + p.length)
  notfin : fin (k, 0, v) = false
  ne : p ≠ []
  len : p.length ≤ 400
  val : ∀ x, v = .str x → x.length ≤ 400
  ok : ∀ x, v = .str x → PyData.strOk x = true
  sc : v ≠ .non → (∃ i, v = .int i) ∨ ∃ x, v = .str x
theorem head_gap {c : Nat} (r : List Nat) (h : ¬ (c = 32 ∨ c = 10)) (h2 : c = 47 → r.head? ≠ some 47) : Lx.gap (c :: r) = 0 := Lx.gap_stop r h fun z => h2 z.1 z.2
theorem let_ne {c : Nat} (h : Lx.isLet c = true) : ¬ (c = 32 ∨ c = 10) ∧ ¬ c = 47 := by
  refine ⟨?_, ?_⟩
  · rintro (rfl | rfl) <;> exact absurd h (by decide)
  · rintro rfl
    exact absurd h (by decide)
theorem dig_ne {c : Nat} (h : Lx.isDig c = true) : ¬ (c = 32 ∨ c = 10) ∧ ¬ c = 47 ∧ ¬ Lx.isLet c = true := by
  have h' : 48 ≤ c ∧ c ≤ 57 := by
    unfold Lx.isDig at h
    simpa using h
  refine ⟨by omega, by omega, ?_⟩
  intro z
  unfold Lx.isLet at z
  simp at z
  omega
theorem last_mem {p : List Nat} (h : p ≠ []) : p.getLastD 0 ∈ p := by
  cases p with
  | nil => exact absurd rfl h
  | cons c m =>
    have e : (c :: m).getLastD 0 = (c :: m).getLast (List.cons_ne_nil c m) := by
      rw [List.getLastD_eq_getLast?, List.getLast?_eq_some_getLast (List.cons_ne_nil c m)]
      rfl
    rw [e]
    exact List.getLast_mem _
theorem fol_wc {p rest : List Nat} (hp : p ≠ []) (hw : ∀ c ∈ p, Lx.isWc c = true) (hF : Fol p rest) : ∀ d, rest.head? = some d → Lx.isWc d = false := fun d hd => by
  have h1 := hF d hd
  have h2 := hw _ (last_mem hp)
  unfold okAfter at h1
  rw [h2] at h1
  cases h : Lx.isWc d
  · rfl
  · rw [h] at h1
    simp at h1
theorem piece_name {p : List Nat} {c : Nat} {m : List Nat} (e : p = c :: m) (hc : Lx.isLet c = true) (hw : ∀ d ∈ p, Lx.isWc d = true) (hl : p.length ≤ 400) : PieceOk p (if isWord p = true then kWord else kName) (.str (S p)) where
  gap0 := fun rest hF => by
    subst e
    exact head_gap _ (let_ne hc).1 fun z => absurd z (let_ne hc).2
  tok := fun a rest hF => by
    have hr : Lx.run Lx.isWc (p ++ rest) = p.length := Lx.run_app _ _ _ hw (fol_wc (by rw [e]; simp) hw hF)
    have et : tokR a (p ++ rest) = nameT a (p ++ rest) := by
      subst e
      exact if_pos hc
    rw [et]
    unfold nameT
    rw [hr, List.take_left]
  notfin := by
    split
    · exact fin_no (by decide +kernel)
    · exact fin_no (by decide +kernel)
  ne := by rw [e]; simp
  len := hl
  val := fun x h => by
    cases h
    rw [S_len]
    exact hl
  ok := fun x h => by
    cases h
    exact strOk_S fun c hc => wc_small (hw c hc)
  sc := fun _ => .inr ⟨_, rfl⟩
theorem digVal_eq : ∀ d : List Nat, digVal d = NumText.digitsVal d
  | [] => by decide +kernel
  | c :: d => by
    by_cases h : c = 48
    · subst h
      have h1 : strip (48 :: d) = strip d := rfl
      have h2 : digVal (48 :: d) = digVal d := by
        unfold digVal
        rw [h1]
      rw [h2, digVal_eq d]
      rfl
    · have h1 : strip (c :: d) = c :: d := by
        unfold strip
        rw [List.dropWhile_cons, if_neg (by simpa using h)]
      unfold digVal
      rw [h1, if_neg (by simp)]
theorem piece_num {p : List Nat} (hp : p ≠ []) (hd : ∀ d ∈ p, Lx.isDig d = true) (hl : (strip p).length ≤ 300) (hl4 : p.length ≤ 400) : PieceOk p kNumber (.int (NumText.digitsVal p : Nat)) where
  gap0 := fun rest hF => by
    cases p with
    | nil => exact absurd rfl hp
    | cons c m =>
      have h := dig_ne (hd c (List.mem_cons_self ..))
      exact head_gap _ h.1 fun z => absurd z h.2.1
  tok := fun a rest hF => by
    have hw : ∀ c ∈ p, Lx.isWc c = true := fun c hc => by
      unfold Lx.isWc
      rw [hd c hc]
      simp
    have hr : Lx.run Lx.isDig (p ++ rest) = p.length := Lx.run_app _ _ _ hd fun d h => by
      have := fol_wc hp hw hF d h
      unfold Lx.isWc at this
      rw [Bool.or_eq_false_iff] at this
      exact this.2
    have et : tokR a (p ++ rest) = numT a (p ++ rest) := by
      cases p with
      | nil => exact absurd rfl hp
      | cons c m =>
        have h := dig_ne (hd c (List.mem_cons_self ..))
        exact (if_neg h.2.2).trans (if_pos (hd c (List.mem_cons_self ..)))
    rw [et]
    unfold numT
    rw [hr, List.take_left]
    have h300 : ¬ 300 < (strip p).length := Nat.not_lt.mpr hl
    have e1 : (if 300 < (strip p).length then ((kFault, a, V.str tooGreat), a) else ((kNumber, a, V.int (digVal p : Nat)), a + p.length)) = ((kNumber, a, V.int (digVal p : Nat)), a + p.length) := if_neg h300
    rw [← digVal_eq]
    exact e1
  notfin := fin_no (by decide +kernel)
  ne := hp
  len := hl4
  val := fun x h => by cases h
  ok := fun x h => by cases h
  sc := fun _ => .inl ⟨_, rfl⟩
theorem spelled_len : ∀ t : List Nat, t.length ≤ (Lx.spelled t).length ∧ (Lx.spelled t).length ≤ 2 * t.length
  | [] => ⟨Nat.le_refl _, Nat.le_refl _⟩
  | c :: t => by
    have ih := spelled_len t
    have e : (Lx.spelled (c :: t)).length = (Lx.spell c).length + (Lx.spelled t).length := by
      show (Lx.spell c ++ Lx.spelled t).length = _
      rw [List.length_append]
    have h : 1 ≤ (Lx.spell c).length ∧ (Lx.spell c).length ≤ 2 := by
      unfold Lx.spell
      split
      · decide
      · split
        · exact ⟨Nat.le_succ 1, Nat.le_refl 2⟩
        · exact ⟨Nat.le_refl 1, Nat.le_succ 1⟩
    rw [e, List.length_cons]
    omega
theorem piece_text {t : List Nat} (ht : ∀ c ∈ t, Lx.isChr c = true) (hl : t.length ≤ 100) : PieceOk (34 :: (Lx.spelled t ++ [34])) kText (.str (S t)) where
  gap0 := fun rest hF => head_gap _ (by decide) fun z => absurd z (by decide)
  tok := fun a rest hF => by
    have e1 : tokR a (34 :: (Lx.spelled t ++ [34]) ++ rest) = textT a (Lx.spelled t ++ 34 :: rest) := by
      rw [List.cons_append, List.append_assoc]
      rfl
    rw [e1]
    unfold textT
    rw [Lx.scan_spelled a rest t (a + 1) [] ht]
    simp
    omega
  notfin := fin_no (by decide +kernel)
  ne := by simp
  len := by
    have := (spelled_len t).2
    rw [List.length_cons, List.length_append, List.length_singleton]
    omega
  val := fun x h => by
    cases h
    rw [S_len]
    omega
  ok := fun x h => by
    cases h
    exact strOk_S fun c hc => chr_small (ht c hc)
  sc := fun _ => .inr ⟨_, rfl⟩
theorem piece_long {c : Nat} (hc : c = 61 ∨ c = 33 ∨ c = 60 ∨ c = 62) : PieceOk [c, 61] kSign (.str (S [c, 61])) where
  gap0 := fun rest hF => head_gap _ (by omega) (by omega)
  tok := fun a rest hF => by
    rcases hc with rfl | rfl | rfl | rfl <;> rfl
  notfin := fin_no (by decide +kernel)
  ne := by simp
  len := by simp
  val := fun x h => by
    cases h
    rw [S_len]
    show 2 ≤ 400
    decide
  ok := fun x h => by
    cases h
    refine strOk_S fun d hd => ?_
    simp at hd
    omega
  sc := fun _ => .inr ⟨_, rfl⟩
theorem piece_short {c : Nat} (hc : c ∈ shortC) : PieceOk [c] kSign (.str (S [c])) where
  gap0 := fun rest hF => by
    refine head_gap _ ?_ ?_
    · exact (by decide : ∀ c ∈ shortC, ¬ (c = 32 ∨ c = 10)) c hc
    · intro z h
      subst z
      have := hF 47 h
      exact absurd this (by decide)
  tok := fun a rest hF => by
    have h1 : ¬ Lx.isLet c = true := (by decide : ∀ c ∈ shortC, ¬ Lx.isLet c = true) c hc
    have h2 : ¬ Lx.isDig c = true := (by decide : ∀ c ∈ shortC, ¬ Lx.isDig c = true) c hc
    have h3 : ¬ c = 34 := (by decide : ∀ c ∈ shortC, ¬ c = 34) c hc
    have h4 : ¬ isLong ((c :: rest).take 2) = true := by
      rw [isLong_eq]
      intro z
      have z := of_decide_eq_true z
      cases rest with
      | nil =>
        unfold longL at z
        simp at z
      | cons d r =>
        have z2 : [c, d] ∈ longL := z
        have hd : d = 61 ∧ (c = 61 ∨ c = 33 ∨ c = 60 ∨ c = 62) := by
          unfold longL at z2
          simp at z2
          omega
        have hc33 : ¬ c = 33 := (by decide : ∀ c ∈ shortC, ¬ c = 33) c hc
        have := hF 61 (by rw [hd.1]; rfl)
        have hcc : c = 61 ∨ c = 60 ∨ c = 62 := by omega
        rcases hcc with rfl | rfl | rfl <;> exact absurd this (by decide)
    show tokR a (c :: rest) = _
    exact (if_neg h1).trans ((if_neg h2).trans ((if_neg h3).trans ((if_neg h4).trans (if_pos hc))))
  notfin := fin_no (by decide +kernel)
  ne := by simp
  len := by simp
  val := fun x h => by
    cases h
    rw [S_len]
    show 1 ≤ 400
    decide
  ok := fun x h => by
    cases h
    refine strOk_S fun d hd => ?_
    have : d = c := by simpa using hd
    rw [this]
    exact short_small c hc
  sc := fun _ => .inr ⟨_, rfl⟩
/-! ### gaps -/
def br9 : List (List Nat) := [[40], [41], [91], [93], [44], [59], [123], [125], [58]]
def br8 : List (List Nat) := [[40], [41], [91], [93], [44], [59], [123], [125]]
structure GapOk (b p g : List Nat) : Prop where
  skip : ∀ q, Lx.gap (g ++ q) = Lx.gap q + g.length
  fol : g ≠ [] → ∀ q, Fol b (g ++ q)
  nil : g = [] → b ∈ br9 ∨ p ∈ br8
  len : g.length ≤ 20
theorem after_blank (b : List Nat) : okAfter b 32 = true ∧ okAfter b 10 = true := by
  unfold okAfter
  rw [show Lx.isWc 32 = false from rfl, show Lx.isWc 10 = false from rfl]
  simp
theorem after_slash {b : List Nat} (h : ¬ b = [47]) : okAfter b 47 = true := by
  unfold okAfter
  rw [show Lx.isWc 47 = false from rfl]
  simp [h]
theorem GapOk.after {b p g : List Nat} (G : GapOk b p g) (rest : List Nat) (hr : g = [] → rest = [] ∨ ∃ q, rest = p ++ q) : Fol b (g ++ rest) := by
  by_cases hg : g = []
  · subst hg
    rw [List.nil_append]
    rcases hr rfl with rfl | ⟨q, rfl⟩
    · exact Fol.nil b
    · rcases G.nil rfl with h | h
      · intro d _
        have : ∀ b ∈ br9, ∀ d, okAfter b d = true := by
          intro b hb d
          unfold br9 at hb
          simp only [List.mem_cons, List.not_mem_nil, or_false] at hb
          rcases hb with rfl | rfl | rfl | rfl | rfl | rfl | rfl | rfl | rfl <;> rfl
        exact this b h d
      · have : ∃ c, p = [c] ∧ Lx.isWc c = false ∧ ¬ c = 61 ∧ ¬ c = 47 := by
          unfold br8 at h
          simp only [List.mem_cons, List.not_mem_nil, or_false] at h
          rcases h with rfl | rfl | rfl | rfl | rfl | rfl | rfl | rfl <;> exact ⟨_, rfl, rfl, by decide, by decide⟩
        obtain ⟨c, rfl, h1, h2, h3⟩ := this
        refine Fol.cons ?_
        unfold okAfter
        rw [h1]
        simp [h2, h3]
  · exact G.fol hg rest
def gaps1 : List (List Nat) := [[32], [10], [32, 32, 10, 32], [32, 47, 47, 32, 97, 32, 34, 98, 10], [47, 47, 32, 123, 10, 10]]
def gaps2 : List (List Nat) := [[], [], [32], [10], [47, 47, 10]]
theorem skip_of {g : List Nat} (h : g ∈ gaps1 ∨ g ∈ gaps2) : ∀ q, Lx.gap (g ++ q) = Lx.gap q + g.length := by
  intro q
  unfold gaps1 gaps2 at h
  simp only [List.mem_cons, List.not_mem_nil, or_false] at h
  rcases h with (rfl | rfl | rfl | rfl | rfl) | (rfl | rfl | rfl | rfl | rfl) <;> rfl
theorem fol_of {g b : List Nat} (h : g ∈ gaps1 ∨ g ∈ gaps2) (hb : ¬ b = [47]) (hg : g ≠ []) : ∀ q, Fol b (g ++ q) := by
  intro q
  have h1 := (after_blank b).1
  have h2 := (after_blank b).2
  have h3 := after_slash hb
  unfold gaps1 gaps2 at h
  simp only [List.mem_cons, List.not_mem_nil, or_false] at h
  rcases h with (rfl | rfl | rfl | rfl | rfl) | (rfl | rfl | rfl | rfl | rfl) <;> first | exact Fol.cons h1 | exact Fol.cons h2 | exact Fol.cons h3 | exact absurd rfl hg
theorem len_of {g : List Nat} (h : g ∈ gaps1 ∨ g ∈ gaps2) : g.length ≤ 10 := by
  rcases h with h | h
  · exact (by decide : ∀ g ∈ gaps1, g.length ≤ 10) g h
  · exact (by decide : ∀ g ∈ gaps2, g.length ≤ 10) g h
theorem gap_plain {b p g : List Nat} (hb : ¬ b = [47]) (h : g ∈ gaps1 ∨ (g ∈ gaps2 ∧ (b ∈ br9 ∨ p ∈ br8))) : GapOk b p g where
  skip := skip_of (h.imp id And.left)
  fol := fol_of (h.imp id And.left) hb
  nil := fun e => by
    rcases h with h | h
    · subst e
      exact absurd h (by decide)
    · exact h.2
  len := by
    have := len_of (h.imp id And.left)
    omega
theorem gap_slash {b p g : List Nat} (h : g ∈ gaps1 ∨ g ∈ gaps2) : GapOk b p (32 :: g) where
  skip := fun q => by
    show Lx.gap (32 :: (g ++ q)) = _
    rw [Lx.gap_blank _ (.inl rfl), skip_of h]
    rfl
  fol := fun _ q => Fol.cons (after_blank b).1
  nil := fun e => by cases e
  len := by
    have := len_of h
    rw [List.length_cons]
    omega
/-! ### the text as it grows -/
def Grown (T : List Nat) (due : List Tk) (b : List Nat) : Prop := ∀ rest ts, Fol b rest → Cut (T ++ rest) T.length ts → Cut (T ++ rest) 0 (due ++ ts)
theorem Grown.start (b : List Nat) : Grown [] [] b := fun rest ts _ c => c
theorem Grown.step {T b g p : List Nat} {due : List Tk} {k : Str} {v : V} (G : Grown T due b) (hg : GapOk b p g) (hp : PieceOk p k v) : Grown (T ++ g ++ p) (due ++ [(k, (T ++ g).length, v)]) p := fun rest ts hF c => by
  rw [List.append_assoc due]
  have e : T ++ g ++ p ++ rest = T ++ (g ++ (p ++ rest)) := by simp only [List.append_assoc]
  rw [e] at c ⊢
  refine G _ _ (hg.after _ fun _ => .inr ⟨rest, rfl⟩) ?_
  have hd : (T ++ (g ++ (p ++ rest))).drop T.length = g ++ (p ++ rest) := List.drop_left
  have hgap : Lx.gap ((T ++ (g ++ (p ++ rest))).drop T.length) = g.length := by rw [hd, hg.skip, hp.gap0 rest hF, Nat.zero_add]
  have hd2 : (T ++ (g ++ (p ++ rest))).drop (T.length + g.length) = p ++ rest := by rw [← List.drop_drop, hd, List.drop_left]
  refine .more (n := T.length + g.length + p.length) ?_ ?_ ?_ ?_
  · rw [hgap, hd2, hp.tok _ rest hF, List.length_append]
  · exact hp.notfin
  · simp only [List.length_append]
    omega
  · have : (T ++ g ++ p).length = T.length + g.length + p.length := by simp only [List.length_append]
    rw [this] at c
    exact c
theorem Grown.done {T b g p : List Nat} {due : List Tk} (G : Grown T due b) (hg : GapOk b p g) : Cut (T ++ g) 0 (due ++ [(kEnd, (T ++ g).length, .non)]) := by
  have hc : Cut (T ++ g) T.length [(kEnd, (T ++ g).length, .non)] := by
    have hgap : Lx.gap ((T ++ g).drop T.length) = g.length := by
      rw [List.drop_left]
      have := hg.skip []
      rw [List.append_nil] at this
      rw [this]
      exact Nat.zero_add _
    refine .last (n := (T ++ g).length) ?_ (show (kEnd == kEnd || kEnd == kFault) = true by decide +kernel)
    rw [hgap, ← List.length_append, List.drop_length]
    rfl
  have := hg.after [] fun _ => .inl rfl
  rw [List.append_nil] at this
  exact G g _ this hc
end My
/-! ### the law's own def -/
namespace My
open PySem L2 SX
open C8 (pss_cut tCut cutS_slice pe_gc)
theorem at_map (ls : List (List Nat)) {k : Int} (h0 : 0 ≤ k) (h1 : k < (ls.length : Nat)) : ∃ l, l ∈ ls ∧ ls[k.toNat]? = some l ∧ atI (ls.map fun l => V.str (S l)) k = some (V.str (S l)) := by
  have hk : k.toNat < ls.length := by omega
  refine ⟨ls[k.toNat], List.getElem_mem hk, List.getElem?_eq_getElem hk, at_ofN (j := k.toNat) (by omega) ?_⟩
  rw [List.getElem?_map, List.getElem?_eq_getElem hk]
  rfl
theorem op_mul_str {X : Cx} : OpR X (binaryOp .Mult) (fun x y H Q => ∃ z n, x = .str z ∧ y = .int n ∧ MulOk z n ∧ Q (.str (Txt.mul z n)) H) := by
  intro pins s σ H x y v u Q I rx ry h
  obtain ⟨z, n, rfl, rfl, hz, q⟩ := h
  obtain ⟨t, rfl⟩ := rx
  obtain ⟨t', rfl⟩ := ry
  exact SB.mul hz (fun t' tk => ⟨.str (Txt.mul z n), H, I.tok _, ⟨_, rfl⟩, q⟩)
section
variable {P : Program} {w : World} {K : PySem.W.Frag} {mg : Str → Option Value} {base : Heap} {wA lA eA : Addr}
local macro_rules | `(tactic| walk_at "sz") => `(tactic| first | assumption | (simp only [S_len, List.length_append, List.length_cons, List.length_nil, List.length_take, List.length_drop] <;> omega))
abbrev sRows : Stmt := top 21
/-! ### _law_rows -/
theorem scRows : FnScope ["script", "count", "rows", "k", "cell"] ["script", "count"] (defScope sRows) := ⟨rfl, rfl, rfl, by decide +kernel, rfl, by decide +kernel, by decide +kernel⟩
def spRows (K : PySem.W.Frag) : Sp := fun vs H Q _ => ∃ (a : Addr) (ns : List Int) (n : Nat), vs = [.ref a, .int (n : Int)] ∧ SqL K H a (ns.map V.int) ∧ ns.length ≤ 63 ∧ n ≤ 1000 ∧
  ∀ H' p (rs : List Int), Same H H' → H p = none → H' p = some (.lst (rs.map V.int)) → rs.length = n → Q (.ref p) H'
theorem ok_rows {f : Addr} {fd : FuncData} (F : Fun K "_law_rows" "_law_rows" sRows f fd) (B : Bl mg) : FnOk P w K mg base CX0 1 f fd ["script", "count"] (spRows K) := by
  refine F.ok scRows (fun vs H Q E h => ?_) (fun cdv A outer s H vs Q E hr h => ?_)
  · obtain ⟨a, ns, n, rfl, _⟩ := h
    rfl
  · obtain ⟨a, ns, n, rfl, hS, hlen, hn, q⟩ := h
    refine ⟨_, pss_cons (ps_set (i := 2) scRows.nd rfl (.inl rfl) (pe_lst pa_nil))
      (pss_cons (ps_for PassesOwn.never rfl (pi_range1 (by rfl) B.range (pa_cons (pv 1) pa_nil)) (pg_name (i := 3) scRows.nd rfl (.inl rfl))
        (pss_cons (ps_set (i := 4) scRows.nd rfl (.inl rfl) pe_int)
        (pss_cut (ps_if (pt_cmpR op_gt (pe_callB call_len_seq (by rfl) B.len PySem.boot_len (pa_cons (pv 0) pa_nil)) pe_int (nomark _))
          (pss_one (ps_set (i := 4) scRows.nd rfl (.inl rfl) (pe_callTy call_int1 (by rfl) B.int (by decide +kernel) (pa_cons
            (pe_ix ix_list (pv 0) (pe_op op_mod (pe_callTy call_int1 (by rfl) B.int (by decide +kernel) (pa_cons (pv 3) pa_nil)) (pe_callB call_len_seq (by rfl) B.len PySem.boot_len (pa_cons (pv 0) pa_nil))) (fun _ _ => rfl)) pa_nil)))) pss_nil)
        (pss_cut (ps_if (pt_cmpR op_lt (pv 4) pe_int (nomark _)) (pss_one (ps_set (i := 4) scRows.nd rfl (.inl rfl) (pe_op op_sub pe_int (pe_op op_mul pe_int (pv 4))))) pss_nil)
        (pss_cut (ps_if (PW.pt (pw_or (pt_cmpR op_ge (pv 3) (pe_callB call_len_seq (by rfl) B.len PySem.boot_len (pa_cons (pv 0) pa_nil)) (nomark _)) (pw_or1 (pt_cmpR op_lt (pv 4) pe_int (nomark _)))))
          (pss_cons (ps_set (i := 4) scRows.nd rfl (.inl rfl) (pe_op op_mod (pe_callTy call_int1 (by rfl) B.int (by decide +kernel) (pa_cons
              (pe_op op_add (pe_op op_mul (pe_op op_add (pe_op op_add (pv 4) (pe_op op_mul pe_int (pv 3))) pe_int) pe_int) (pe_op op_mul (pe_op op_mul (pv 3) (pv 3)) pe_int)) pa_nil)) pe_int))
          (pss_one (ps_set (i := 4) scRows.nd rfl (.inl rfl) (pe_op op_mod (pe_callTy call_int1 (by rfl) B.int (by decide +kernel) (pa_cons
              (pe_op op_mul (pe_op op_add (pe_op op_add (pv 4) (pe_op op_mul pe_int (pv 3))) pe_int) pe_int) pa_nil)) pe_int)))) pss_nil)
        (pss_one (ps_expr (pe_bm PySem.F.plainAttrs_list PySem.F.slot_list_append PySem.F.type_list_append mt_append (pv 2) (pa_cons (pv 4) pa_nil)))))))))
      (pss_one (ps_ret (pv 2)))), ?_⟩
    refine ⟨Nat.zero_le _, fun o no => ?_⟩
    refine ⟨_, rfl, (n : Int), rfl, by omega, by omega, for_range (n := (n : Int).toNat) (fun i σ H3 => ∃ (rs : List Int) (y3 y4 : Option V), σ = [some (.ref a), some (.int (n : Int)), some (.ref o), y3, y4] ∧ Same H H3 ∧ H3 o = some (.lst (rs.map V.int)) ∧ rs.length = i)
      ⟨[], none, none, rfl, same_upd no, upd_same, rfl⟩ ?_ ?_⟩
    · rintro i σ H3 hi ⟨rs, y3, y4, rfl, s3, eo, el⟩
      have hA : SqL K H3 a (ns.map V.int) := s3.seq hS
      have hi' : i < n := by omega
      have hz := sizeLine_eq
      let M : List (Option V) → Hp → Prop := fun σ' H' => ∃ cell : Int, σ' = [some (.ref a), some (.int (n : Int)), some (.ref o), some (.int (0 + (i : Int))), some (.int cell)] ∧ H' = H3
      have hk2 : -(2 ^ 64) < 0 + (i : Int) ∧ 0 + (i : Int) < 2 ^ 64 := ⟨by omega, by omega⟩
      -- if len(script) > 0: cell = int(script[int(k) % len(script)])
      refine ⟨M, ⟨_, rfl, a, _, rfl, .inl hA, _, _, rfl, rfl, _, rfl, ite2 (fun e => ?_) (fun _ => ⟨0, rfl, rfl⟩)⟩, ?_⟩
      · have e1 : (0 : Int) < ((ns.map V.int).length : Nat) := of_decide_eq_true e
        have e2 : 0 ≤ (0 + (i : Int)) % ((ns.map V.int).length : Nat) := Int.emod_nonneg _ (by omega)
        have e3 : (0 + (i : Int)) % ((ns.map V.int).length : Nat) < ((ns.map V.int).length : Nat) := Int.emod_lt_of_pos _ e1
        obtain ⟨j, ej⟩ : ∃ j : Nat, (0 + (i : Int)) % ((ns.map V.int).length : Nat) = (j : Int) := ⟨_, (Int.toNat_of_nonneg e2).symm⟩
        have hj : j < ns.length := by
          rw [ej, List.length_map] at e3
          omega
        refine ⟨_, rfl, _, rfl, .inl ⟨_, rfl, _, rfl, a, _, rfl, .inl hA, _, _, rfl, rfl, e1, a, _, _, V.int ns[j], rfl, rfl, hA, at_of ej ?_, .inl ⟨_, rfl, _, rfl, rfl⟩⟩⟩
        rw [List.getElem?_map, List.getElem?_eq_getElem hj]
        rfl
      rintro σ' H' ⟨cell, rfl, rfl⟩
      -- if cell < 0: cell = 1 - 2 * cell
      refine ⟨M, ⟨_, rfl, _, _, rfl, rfl, _, rfl, ite2 (fun _ => ?_) (fun _ => ⟨cell, rfl, rfl⟩)⟩, ?_⟩
      · exact ⟨_, rfl, _, _, rfl, rfl, .inl ⟨by decide, by decide⟩, _, _, rfl, rfl, _, rfl, rfl⟩
      rintro σ' H' ⟨cell, rfl, rfl⟩
      -- if k >= len(script) or cell < 1000000000: mixed
      refine ⟨M, ⟨_, rfl, _, rfl, a, _, rfl, .inl hA, _, _, rfl, rfl, _, rfl, ite2 (fun _ => iteT ?_) (fun _ => ⟨_, rfl, _, _, rfl, rfl, _, rfl, ite2 (fun _ => ?_) (fun _ => ⟨cell, rfl, rfl⟩)⟩)⟩, ?_⟩
      · refine ⟨_, rfl, _, rfl, _, _, rfl, rfl, .inl ⟨by decide, by decide⟩, _, _, rfl, rfl, _, _, rfl, rfl, _, _, rfl, rfl, .inr ⟨by decide, by decide⟩, _, rfl, _, rfl, _, _, rfl, rfl, .inl hk2, _, _, rfl, rfl, .inr ⟨by decide, by decide⟩, _, _, rfl, rfl, .inl ⟨_, rfl, _, _, rfl, rfl, (by show (0 : Int) < 1000000007; decide), ?_⟩⟩
        exact ⟨_, rfl, _, rfl, _, _, rfl, rfl, .inl ⟨by decide, by decide⟩, _, _, rfl, rfl, _, _, rfl, rfl, _, _, rfl, rfl, .inr ⟨by decide, by decide⟩, .inl ⟨_, rfl, _, _, rfl, rfl, (by show (0 : Int) < 18446744073709551557; decide), _, rfl, rfl⟩⟩
      · refine ⟨_, rfl, _, rfl, _, _, rfl, rfl, .inl ⟨by decide, by decide⟩, _, _, rfl, rfl, _, _, rfl, rfl, _, _, rfl, rfl, .inr ⟨by decide, by decide⟩, _, rfl, _, rfl, _, _, rfl, rfl, .inl hk2, _, _, rfl, rfl, .inr ⟨by decide, by decide⟩, _, _, rfl, rfl, .inl ⟨_, rfl, _, _, rfl, rfl, (by show (0 : Int) < 1000000007; decide), ?_⟩⟩
        exact ⟨_, rfl, _, rfl, _, _, rfl, rfl, .inl ⟨by decide, by decide⟩, _, _, rfl, rfl, _, _, rfl, rfl, _, _, rfl, rfl, .inr ⟨by decide, by decide⟩, .inl ⟨_, rfl, _, _, rfl, rfl, (by show (0 : Int) < 18446744073709551557; decide), _, rfl, rfl⟩⟩
      rintro σ' H' ⟨cell, rfl, rfl⟩
      -- rows.append(cell)
      refine ⟨_, rfl, .inl ⟨rfl, _, .inl (.inl eo)⟩, _, rfl, o, _, _, rfl, rfl, eo, ?_, rs ++ [cell], _, _, rfl, ?_, ?_, ?_⟩
      · rw [List.length_map]
        omega
      · exact fun b x e => by
          rw [upd_ne (ne_of_none e no)]
          exact s3 _ _ e
      · rw [upd_same, List.map_append]
        rfl
      · rw [List.length_append, el]
        rfl
    · rintro σ H3 ⟨rs, y3, y4, rfl, s3, eo, el⟩
      exact ⟨_, rfl, q H3 o rs s3 no eo (by omega)⟩

/-! ### _law_word -/
abbrev sLawWord : Stmt := top 22
theorem scLawWord : FnScope ["row", "words"] ["row"] (defScope sLawWord) := ⟨rfl, rfl, rfl, by decide +kernel, rfl, by decide +kernel, by decide +kernel⟩
def wordAt (r : Int) : List Nat := wordsL.getD (r % 25).toNat []
def spLawWord : Sp := fun vs H Q _ => ∃ (r : Int), vs = [.int r] ∧ ∀ H', Same H H' → Q (.str (S (wordAt r))) H'
theorem okLawWord {f : Addr} {fd : FuncData} (F : Fun K "_law_word" "_law_word" sLawWord f fd) (B : Bl mg) : FnOk P w K mg base CX0 1 f fd ["row"] spLawWord := by
  refine F.ok scLawWord (fun vs H Q E h => ?_) (fun cdv A outer s H vs Q E hr h => ?_)
  · obtain ⟨r, rfl, _⟩ := h
    rfl
  · obtain ⟨r, rfl, q⟩ := h
    have hz := sizeLine_eq
    refine ⟨_, pss_cons (ps_set (i := 1) scLawWord.nd rfl (.inl rfl) (pe_lst (pa_cons pe_str (pa_cons pe_str (pa_cons pe_str (pa_cons pe_str (pa_cons pe_str (pa_cons pe_str (pa_cons pe_str (pa_cons pe_str (pa_cons pe_str (pa_cons pe_str (pa_cons pe_str (pa_cons pe_str (pa_cons pe_str (pa_cons pe_str (pa_cons pe_str (pa_cons pe_str (pa_cons pe_str (pa_cons pe_str (pa_cons pe_str (pa_cons pe_str (pa_cons pe_str (pa_cons pe_str (pa_cons pe_str (pa_cons pe_str (pa_cons pe_str pa_nil)))))))))))))))))))))))))))
      (pss_one (ps_ret (pe_ix ix_list (pv 1) (pe_op op_mod (pe_callTy call_int1 (by rfl) B.int (by decide +kernel) (pa_cons (pv 0) pa_nil)) pe_int) (fun _ _ => rfl)))), ?_⟩
    refine ⟨(by show 25 ≤ sizeLine; omega), fun p1 n1 => ?_⟩
    obtain ⟨l, _, e1, e2⟩ := at_map wordsL (k := r % 25) (Int.emod_nonneg _ (by decide)) (Int.emod_lt_of_pos _ (by decide))
    rw [← wordsV_eq] at e2
    refine ⟨_, rfl, _, rfl, .inl ⟨_, rfl, _, _, rfl, rfl, (by show (0 : Int) < 25; decide), p1, _, _, _, rfl, rfl, SqL.of upd_same, e2, ?_⟩⟩
    have : wordAt r = l := by
      unfold wordAt
      rw [List.getD_eq_getElem?_getD, e1]
      rfl
    rw [← this]
    exact q _ (same_upd n1)
/-! ### _law_name -/
abbrev sLawName : Stmt := top 23
theorem scLawName : FnScope ["row", "letters", "name"] ["row"] (defScope sLawName) := ⟨rfl, rfl, rfl, by decide +kernel, rfl, by decide +kernel, by decide +kernel⟩
def nameC : List Nat := [97, 98, 99, 120, 121, 122, 65, 66, 67, 90, 95, 108, 101, 116, 102, 117, 110, 111, 114, 105, 115, 108, 109]
def nameAt (r : Int) : List Nat := [nameC.getD (r % 23).toNat 0, nameC.getD (r / 23 % 23).toNat 0, 95] ++ (if r / 529 % 3 = 0 then TL.numL (r / 1587 % 100).toNat else [])
def spLawName : Sp := fun vs H Q _ => ∃ (r : Int), vs = [.int r] ∧ Q (.str (S (nameAt r))) H
theorem nameC_at {k : Int} (h0 : 0 ≤ k) (h1 : k < 23) : atI (S nameC).cps.toList k = some (nameC.getD k.toNat 0) := by
  refine at_ofN (j := k.toNat) (by omega) ?_
  show nameC[k.toNat]? = _
  have hk : k.toNat < nameC.length := by
    show k.toNat < 23
    omega
  rw [List.getD_eq_getElem?_getD, List.getElem?_eq_getElem hk]
  rfl
theorem okLawName {f : Addr} {fd : FuncData} (F : Fun K "_law_name" "_law_name" sLawName f fd) (B : Bl mg) : FnOk P w K mg base CX0 1 f fd ["row"] spLawName := by
  refine F.ok scLawName (fun vs H Q E h => ?_) (fun cdv A outer s H vs Q E hr h => ?_)
  · obtain ⟨r, rfl, _⟩ := h
    rfl
  · obtain ⟨r, rfl, q⟩ := h
    have hz := sizeLine_eq
    refine ⟨_, pss_cons (ps_set (i := 1) scLawName.nd rfl (.inl rfl) pe_str)
      (pss_cons (ps_set (i := 2) scLawName.nd rfl (.inl rfl) (pe_op op_add_str (pe_op op_add_str (pe_ix ix_str (pv 1) (pe_op op_mod (pe_callTy call_int1 (by rfl) B.int (by decide +kernel) (pa_cons (pv 0) pa_nil)) pe_int) (fun _ _ => rfl)) (pe_ix ix_str (pv 1) (pe_op op_mod (pe_callTy call_int1 (by rfl) B.int (by decide +kernel) (pa_cons (pe_op op_fdiv (pv 0) pe_int) pa_nil)) pe_int) (fun _ _ => rfl))) pe_str))
      (pss_cons (ps_if (pt_cmpR op_eq (pe_op op_mod (pe_op op_fdiv (pv 0) pe_int) pe_int) pe_int (nomark _))
        (pss_one (ps_set (i := 2) scLawName.nd rfl (.inl rfl) (pe_op op_add_str (pv 2) (pe_callTy call_str_int (by rfl) B.str (by decide +kernel) (pa_cons (pe_op op_mod (pe_callTy call_int1 (by rfl) B.int (by decide +kernel) (pa_cons (pe_op op_fdiv (pv 0) pe_int) pa_nil)) pe_int) pa_nil)))))
        pss_nil)
      (pss_one (ps_ret (pv 2))))), ?_⟩
    have eL : (("abcxyzABCZ_letfunorislm" : Str)) = S nameC := by decide +kernel
    have e95 : (("_" : Str)) = S [95] := by decide +kernel
    have h1 := nameC_at (k := r % 23) (Int.emod_nonneg _ (by decide)) (Int.emod_lt_of_pos _ (by decide))
    have h2 := nameC_at (k := r / 23 % 23) (Int.emod_nonneg _ (by decide)) (Int.emod_lt_of_pos _ (by decide))
    have hsz : (S nameC).length ≤ sizeLine := by
      show 23 ≤ sizeLine
      omega
    refine ⟨_, rfl, _, rfl, .inl ⟨_, rfl, _, _, rfl, rfl, (by show (0 : Int) < 23; decide), _, _, _, rfl, rfl, (by rw [eL]; exact hsz), (by rw [eL]; exact h1), _, rfl, _, rfl, _, _, rfl, rfl, ⟨by decide, by decide⟩, .inl ⟨_, rfl, _, _, rfl, rfl, (by show (0 : Int) < 23; decide), _, _, _, rfl, rfl, (by rw [eL]; exact hsz), (by rw [eL]; exact h2), _, _, rfl, rfl, (by show 1 + 1 ≤ sizeLine; omega), _, _, rfl, rfl, (by show 2 + 1 ≤ sizeLine; omega), ?_⟩⟩⟩
    rw [e95, S_cat, S_cat]
    -- if row // 529 % 3 == 0:
    refine ⟨_, rfl, _, _, rfl, rfl, ⟨by decide, by decide⟩, _, _, rfl, rfl, (by show (0 : Int) < 3; decide), rfl, _, rfl, ite2 (fun e => ?_) (fun e => ?_)⟩
    · have h0 : r / 529 % 3 = 0 := V.int.inj (of_decide_eq_true e)
      have p0 : 0 ≤ r / 1587 % 100 := Int.emod_nonneg _ (by decide)
      have p1 : r / 1587 % 100 < 100 := Int.emod_lt_of_pos _ (by decide)
      obtain ⟨m, em⟩ := Int.eq_ofNat_of_zero_le p0
      have hm : m < 100 := by omega
      have hlog : (r / 1587 % 100).natAbs.log2 < 1920 := by
        rw [em]
        have : m.log2 < 100 := Nat.lt_of_le_of_lt (Nat.log2_le_self m) hm
        show m.log2 < 1920
        omega
      have hnl : (TL.numL m).length ≤ 2 := TL.numL_len (by decide) hm
      refine ⟨_, rfl, _, rfl, _, _, rfl, rfl, ⟨by decide, by decide⟩, .inl ⟨_, rfl, _, _, rfl, rfl, (by show (0 : Int) < 100; decide), _, rfl, hlog, ?_⟩⟩
      dsimp only
      rw [em, num_S]
      refine ⟨_, _, rfl, rfl, ?_, ?_⟩
      · rw [S_len, S_len]
        show 3 + _ ≤ sizeLine
        omega
      rw [S_cat]
      have e2 : nameAt r = [nameC.getD (r % 23).toNat 0] ++ [nameC.getD (r / 23 % 23).toNat 0] ++ [95] ++ TL.numL m := by
        unfold nameAt
        rw [if_pos h0, em]
        rfl
      rw [e2] at q
      exact ⟨_, rfl, q⟩
    · have h0 : ¬ r / 529 % 3 = 0 := fun z => e (decide_eq_true (show V.int (r / 529 % 3) = V.int 0 by rw [z]))
      have e2 : nameAt r = [nameC.getD (r % 23).toNat 0] ++ [nameC.getD (r / 23 % 23).toNat 0] ++ [95] := by
        unfold nameAt
        rw [if_neg h0]
        rfl
      rw [e2] at q
      exact ⟨_, rfl, q⟩
/-! ### _law_text -/
abbrev sLawText : Stmt := top 24
theorem scLawText : FnScope ["row", "chars", "text", "k"] ["row"] (defScope sLawText) := ⟨rfl, rfl, rfl, by decide +kernel, rfl, by decide +kernel, by decide +kernel⟩
def charC : List Nat := [97, 90, 48, 32, 34, 92, 10, 110, 47, 126, 123, 39, 35, 59]
def textGo : Nat → Nat → Int → List Nat
  | 0, _, _ => []
  | m + 1, i, r => charC.getD (r % 14).toNat 0 :: textGo m (i + 1) (r / 14 + i)
def textAt (r : Int) : List Nat := textGo (r / 7 % 6).toNat 0 r
theorem textGo_ok : ∀ (m i : Nat) (r : Int), (textGo m i r).length = m ∧ ∀ c ∈ textGo m i r, Lx.isChr c = true
  | 0, _, _ => ⟨rfl, fun _ h => by cases h⟩
  | m + 1, i, r => by
    have ih := textGo_ok m (i + 1) (r / 14 + i)
    refine ⟨by show (textGo m (i + 1) (r / 14 + i)).length + 1 = m + 1; rw [ih.1], fun c hc => ?_⟩
    rcases List.mem_cons.mp hc with rfl | h
    · have h0 : 0 ≤ r % 14 := Int.emod_nonneg _ (by decide)
      have h1 : r % 14 < 14 := Int.emod_lt_of_pos _ (by decide)
      obtain ⟨k, ek⟩ := Int.eq_ofNat_of_zero_le h0
      rw [ek, Int.toNat_natCast]
      exact (by decide : ∀ k, k < 14 → Lx.isChr (charC.getD k 0) = true) k (by omega)
    · exact ih.2 c h
def spLawText : Sp := fun vs H Q _ => ∃ (r : Int), vs = [.int r] ∧ ∀ H', Same H H' → Q (.str (S (textAt r))) H'
theorem okLawText {f : Addr} {fd : FuncData} (F : Fun K "_law_text" "_law_text" sLawText f fd) (B : Bl mg) : FnOk P w K mg base CX0 1 f fd ["row"] spLawText := by
  refine F.ok scLawText (fun vs H Q E h => ?_) (fun cdv A outer s H vs Q E hr h => ?_)
  · obtain ⟨r, rfl, _⟩ := h
    rfl
  · obtain ⟨r, rfl, q⟩ := h
    have hz := sizeLine_eq
    refine ⟨_, pss_cons (ps_set (i := 1) scLawText.nd rfl (.inl rfl) (pe_lst (pa_cons pe_str (pa_cons pe_str (pa_cons pe_str (pa_cons pe_str (pa_cons pe_str (pa_cons pe_str (pa_cons pe_str (pa_cons pe_str (pa_cons pe_str (pa_cons pe_str (pa_cons pe_str (pa_cons pe_str (pa_cons pe_str (pa_cons pe_str pa_nil))))))))))))))))
      (pss_cons (ps_set (i := 2) scLawText.nd rfl (.inl rfl) pe_str)
      (pss_cons (ps_for PassesOwn.never rfl (pi_range1 (by rfl) B.range (pa_cons (pe_op op_mod (pe_callTy call_int1 (by rfl) B.int (by decide +kernel) (pa_cons (pe_op op_fdiv (pv 0) pe_int) pa_nil)) pe_int) pa_nil)) (pg_name (i := 3) scLawText.nd rfl (.inl rfl))
        (pss_cons (ps_set (i := 2) scLawText.nd rfl (.inl rfl) (pe_op op_add_str (pv 2) (pe_ix ix_list (pv 1) (pe_op op_mod (pe_callTy call_int1 (by rfl) B.int (by decide +kernel) (pa_cons (pv 0) pa_nil)) pe_int) (fun _ _ => rfl))))
        (pss_one (ps_set (i := 0) scLawText.nd rfl (.inl rfl) (pe_op op_add (pe_op op_fdiv (pv 0) pe_int) (pv 3))))))
      (pss_one (ps_ret (pv 2))))), ?_⟩
    have eC : ([V.str "a", V.str "Z", V.str "0", V.str " ", V.str "\"", V.str "\\", V.str "\n", V.str "n", V.str "/", V.str "~", V.str "{", V.str "'", V.str "#", V.str ";"] : List V) = (charC.map fun c => [c]).map fun l => V.str (S l) := by decide +kernel
    have e0 : (("" : Str)) = S [] := by decide +kernel
    have p0 : 0 ≤ r / 7 % 6 := Int.emod_nonneg _ (by decide)
    have p1 : r / 7 % 6 < 6 := Int.emod_lt_of_pos _ (by decide)
    refine ⟨(by show 14 ≤ sizeLine; omega), fun o no => ?_⟩
    rw [e0]
    refine ⟨_, rfl, _, _, rfl, rfl, ⟨by decide, by decide⟩, .inl ⟨_, rfl, _, _, rfl, rfl, (by show (0 : Int) < 6; decide), _, rfl, ?_, ?_, ?_⟩⟩
    · show -(2 ^ 62) ≤ r / 7 % 6
      omega
    · show r / 7 % 6 < 2 ^ 62
      omega
    refine for_range (n := (r / 7 % 6).toNat) (fun i σ H3 => ∃ (l : List Nat) (r' : Int) (y : Option V), σ = [some (.int r'), some (.ref o), some (.str (S l)), y] ∧ H3 o = some (.lst ((charC.map fun c => [c]).map fun l => V.str (S l))) ∧ Same H H3 ∧ l.length = i ∧ l ++ textGo ((r / 7 % 6).toNat - i) i r' = textAt r)
      ⟨[], r, none, rfl, ?_, same_upd no, rfl, rfl⟩ ?_ ?_
    · rw [upd_same, eC]
    · rintro i σ H3 hi ⟨l, r', y, rfl, eo, s3, el, et⟩
      obtain ⟨c, hc, e1, e2⟩ := at_map (charC.map fun c => [c]) (k := r' % 14) (Int.emod_nonneg _ (by decide)) (Int.emod_lt_of_pos _ (by decide))
      obtain ⟨d, hd1, rfl⟩ : ∃ d, charC[(r' % 14).toNat]? = some d ∧ c = [d] := by
        rw [List.getElem?_map] at e1
        cases h : charC[(r' % 14).toNat]? with
        | none =>
          rw [h] at e1
          cases e1
        | some d =>
          rw [h] at e1
          exact ⟨d, rfl, (Option.some.inj e1).symm⟩
      have hi' : i < 6 := by omega
      refine ⟨_, rfl, _, rfl, _, rfl, .inl ⟨_, rfl, _, _, rfl, rfl, (by show (0 : Int) < 14; decide), o, _, _, _, rfl, rfl, SqL.of eo, e2, _, _, rfl, rfl, ?_, ?_⟩⟩
      · rw [S_len, S_len, el]
        show i + 1 ≤ sizeLine
        omega
      rw [S_cat]
      refine ⟨_, rfl, _, _, rfl, rfl, ⟨by decide, by decide⟩, _, rfl, _, _, rfl, rfl, l ++ [d], _, _, rfl, eo, s3, ?_, ?_⟩
      · rw [List.length_append, el]
        rfl
      · rw [← et, List.append_assoc]
        have em : (r / 7 % 6).toNat - i = ((r / 7 % 6).toNat - (i + 1)) + 1 := by omega
        rw [em]
        show l ++ ([d] ++ textGo _ _ (r' / 14 + (0 + (i : Int)))) = l ++ (charC.getD (r' % 14).toNat 0 :: textGo _ _ (r' / 14 + i))
        rw [List.getD_eq_getElem?_getD, hd1, Int.zero_add]
        rfl
    · rintro σ H3 ⟨l, r', y, rfl, eo, s3, el, et⟩
      rw [Nat.sub_self] at et
      have : l = textAt r := by
        rw [← et]
        exact (List.append_nil l).symm
      rw [this]
      exact ⟨_, rfl, q _ s3⟩
/-! ### _law_spelled -/
abbrev sLawSpelled : Stmt := top 25
theorem scLawSpelled : FnScope ["text", "spelled", "char"] ["text"] (defScope sLawSpelled) := ⟨rfl, rfl, rfl, by decide +kernel, rfl, by decide +kernel, by decide +kernel⟩
def spLawSpelled : Sp := fun vs H Q _ => ∃ (t : List Nat), vs = [.str (S t)] ∧ t.length ≤ 100 ∧ Q (.str (S (34 :: (Lx.spelled t ++ [34])))) H
theorem spelled_take {t : List Nat} {i : Nat} {c : Nat} (h : t[i]? = some c) : Lx.spelled (t.take (i + 1)) = Lx.spelled (t.take i) ++ Lx.spell c := by
  unfold Lx.spelled
  rw [List.take_add_one, h, List.map_append, List.flatten_append]
  show _ ++ (Lx.spell c ++ []) = _
  rw [List.append_nil]
theorem okLawSpelled {f : Addr} {fd : FuncData} (F : Fun K "_law_spelled" "_law_spelled" sLawSpelled f fd) : FnOk P w K mg base CX0 1 f fd ["text"] spLawSpelled := by
  refine F.ok scLawSpelled (fun vs H Q E h => ?_) (fun cdv A outer s H vs Q E hr h => ?_)
  · obtain ⟨t, rfl, _⟩ := h
    rfl
  · obtain ⟨t, rfl, ht, q⟩ := h
    have hz := sizeLine_eq
    refine ⟨_, pss_cons (ps_set (i := 1) scLawSpelled.nd rfl (.inl rfl) pe_str)
      (pss_cons (ps_for PassesOwn.never rfl (pi_str (pv 0)) (pg_name (i := 2) scLawSpelled.nd rfl (.inl rfl))
        (pss_one (ps_if (pt_cmpR op_eq (pv 2) pe_str (nomark _))
          (pss_one (ps_set (i := 1) scLawSpelled.nd rfl (.inl rfl) (pe_op op_add_str (pv 1) pe_str)))
          (pss_one (ps_if (PW.pt (pw_or (pt_cmpR op_eq (pv 2) pe_str (nomark _)) (pw_or1 (pt_cmpR op_eq (pv 2) pe_str (nomark _)))))
            (pss_one (ps_set (i := 1) scLawSpelled.nd rfl (.inl rfl) (pe_op op_add_str (pe_op op_add_str (pv 1) pe_str) (pv 2))))
            (pss_one (ps_set (i := 1) scLawSpelled.nd rfl (.inl rfl) (pe_op op_add_str (pv 1) (pv 2)))))))))
      (pss_one (ps_ret (pe_op op_add_str (pe_op op_add_str pe_str (pv 1)) pe_str)))), ?_⟩
    have e0 : (("" : Str)) = S [] := by decide +kernel
    have e10 : (("\n" : Str)) = S [10] := by decide +kernel
    have e34 : (("\"" : Str)) = S [34] := by decide +kernel
    have e92 : (("\\" : Str)) = S [92] := by decide +kernel
    have e9n : (("\\n" : Str)) = S [92, 110] := by decide +kernel
    rw [e0]
    have key : ∀ (c d : Nat), decide (V.str (S [c]) = V.str (S [d])) = decide (c = d) := fun c d => by
      rw [Bool.eq_iff_iff, decide_eq_true_eq, decide_eq_true_eq]
      constructor
      · intro z
        injection S_inj (V.str.inj z)
      · intro z
        rw [z]
    refine ⟨_, rfl, S t, rfl, for_it walk_str (fun i σ H3 => ∃ y, σ = [some (.str (S t)), some (.str (S (Lx.spelled (t.take i)))), y] ∧ H3 = H) ⟨none, rfl, rfl⟩ (fun _ _ _ _ _ => trivial) ?_ ?_⟩
    · rintro i x σ H3 H4 hi ⟨y, rfl, rfl⟩ ⟨rfl, c, hc, rfl⟩
      have hc' : t[i]? = some c := by
        rw [← Array.getElem?_toList] at hc
        exact hc
      have hsz : (Lx.spelled (t.take i)).length ≤ 200 := by
        have h1 := (spelled_len (t.take i)).2
        rw [List.length_take] at h1
        omega
      have et := spelled_take hc'
      rw [e10]
      refine ⟨_, rfl, rfl, _, rfl, ?_⟩
      rw [key]
      refine ite2 (fun h => ?_) (fun h => ?_)
      · have h : c = 10 := of_decide_eq_true h
        rw [e9n]
        refine ⟨_, rfl, _, _, rfl, rfl, (by rw [S_len, S_len]; show _ + 2 ≤ sizeLine; omega), ?_⟩
        rw [S_cat]
        refine ⟨some (V.str (S [c])), ?_, rfl⟩
        rw [et, h]
        rfl
      · have h : ¬ c = 10 := fun z => h (decide_eq_true z)
        rw [e34, e92]
        refine ⟨_, rfl, rfl, _, rfl, ?_⟩
        rw [key]
        have both : (c = 34 ∨ c = 92) → ([some (V.str (S t)), some (V.str (S (Lx.spelled (t.take i) ++ [92] ++ [c]))), some (V.str (S [c]))] : List (Option V)) = [some (.str (S t)), some (.str (S (Lx.spelled (t.take (i + 1))))), some (V.str (S [c]))] := fun hq => by
          rw [et]
          unfold Lx.spell
          rw [if_neg h, if_pos hq, List.append_assoc]
          rfl
        refine ite2 (fun h2 => iteT ?_) (fun h2 => ⟨_, rfl, rfl, _, rfl, ?_⟩)
        · refine ⟨_, rfl, _, _, rfl, rfl, (by rw [S_len, S_len]; show _ + 1 ≤ sizeLine; omega), ?_⟩
          rw [S_cat]
          refine ⟨_, rfl, _, _, rfl, rfl, (by rw [S_len, S_len, List.length_append]; show _ + 1 + 1 ≤ sizeLine; omega), ?_⟩
          rw [S_cat]
          exact ⟨_, both (.inl (of_decide_eq_true h2)), rfl⟩
        · rw [key]
          refine ite2 (fun h3 => ?_) (fun h3 => ?_)
          · refine ⟨_, rfl, _, _, rfl, rfl, (by rw [S_len, S_len]; show _ + 1 ≤ sizeLine; omega), ?_⟩
            rw [S_cat]
            refine ⟨_, rfl, _, _, rfl, rfl, (by rw [S_len, S_len, List.length_append]; show _ + 1 + 1 ≤ sizeLine; omega), ?_⟩
            rw [S_cat]
            exact ⟨_, both (.inr (of_decide_eq_true h3)), rfl⟩
          · refine ⟨_, rfl, _, rfl, _, _, rfl, rfl, (by rw [S_len, S_len]; show _ + 1 ≤ sizeLine; omega), ?_⟩
            rw [S_cat]
            have hn : ¬ (c = 34 ∨ c = 92) := by
              rintro (z | z)
              · exact h2 (decide_eq_true z)
              · exact h3 (decide_eq_true z)
            refine ⟨some (V.str (S [c])), ?_, rfl⟩
            rw [et]
            unfold Lx.spell
            rw [if_neg h, if_neg hn]
            rfl
    · rintro σ H3 ⟨y, rfl, rfl⟩
      have hsz := (spelled_len t).2
      have en : t.take (S t).cps.size = t := List.take_of_length_le (by
        show t.length ≤ (S t).length
        rw [S_len]
        exact Nat.le_refl _)
      rw [en, e34]
      refine ⟨_, rfl, _, _, rfl, rfl, (by rw [S_len, S_len]; show 1 + _ ≤ sizeLine; omega), ?_⟩
      rw [S_cat]
      refine ⟨_, _, rfl, rfl, (by rw [S_len, S_len, List.length_append]; show 1 + _ + 1 ≤ sizeLine; omega), ?_⟩
      rw [S_cat]
      exact q
end
end My
/-! ### what is no token -/
namespace My
open PySem L2 SX
open C8 (pss_cut tCut cutS_slice pe_gc)
theorem fold_rep (c : Nat) : ∀ (z : Nat) (acc : Array Nat), ((List.replicate z #[c]).foldl (· ++ ·) acc).toList = acc.toList ++ List.replicate z c
  | 0, acc => by simp
  | z + 1, acc => by
    rw [List.replicate_succ, List.foldl_cons, fold_rep c z]
    simp [List.replicate_succ]
theorem mul_one (c z : Nat) : Txt.mul (S [c]) (z : Int) = S (List.replicate z c) := by
  unfold Txt.mul
  by_cases h0 : z = 0
  · subst h0
    rfl
  · rw [if_neg (by omega)]
    by_cases h1 : z = 1
    · subst h1
      rfl
    · have h2 : ¬ (((z : Int) == 1 || (S [c]).length == 0) = true) := by
        rw [Bool.or_eq_true, beq_iff_eq, beq_iff_eq]
        rintro (h | h)
        · omega
        · exact absurd h (by rw [S_len]; exact Nat.succ_ne_zero 0)
      rw [if_neg h2]
      refine TL.ext_tl ?_
      show ((List.replicate ((z : Int)).toNat #[c]).foldl (· ++ ·) #[]).toList = List.replicate z c
      rw [fold_rep, Int.toNat_natCast]
      rfl
theorem mulOk_one (c z : Nat) (hz : z ≤ 1000) : MulOk (S [c]) (z : Int) := by
  have h1 : (S [c]).length = 1 := rfl
  refine And.intro ?_ (And.intro (fun h _ => ?_) (fun h _ => ?_))
  · rw [Bool.or_eq_false_iff]
    exact ⟨decide_eq_false (by omega), decide_eq_false (by omega)⟩
  · rw [h1]
    have : (1 : Int) ≤ (2 ^ 63 - 1) / (z : Int) := Int.le_ediv_of_mul_le (by omega) (by omega)
    intro z2
    have z3 : ((1 : Nat) : Int) > (2 ^ 63 - 1) / (z : Int) := z2
    omega
  · rw [h1, Int.toNat_natCast]
    unfold Builtin.Str.tooLong
    simp
    have := sizeLine_eq
    omega
/-- a text that begins with no token: the fault o signs on -/
def Bad (f rest : List Nat) (o : Nat) (m : Str) : Prop := Lx.gap (f ++ rest) = 0 ∧ ∀ a, (tokR a (f ++ rest)).1 = (kFault, a + o, .str m)
theorem bad_sign {c : Nat} (hc : c ∈ [35, 38, 64, 33, 63, 126, 94, 124, 36, 39, 92, 96]) (rest : List Nat) : Bad [c, 32] rest 0 notAllowed := by
  have h0 := (by decide : ∀ c ∈ [35, 38, 64, 33, 63, 126, 94, 124, 36, 39, 92, 96], ¬ (c = 32 ∨ c = 10) ∧ ¬ c = 47 ∧ ¬ Lx.isLet c = true ∧ ¬ Lx.isDig c = true ∧ ¬ c = 34 ∧ ¬ c ∈ shortC) c hc
  obtain ⟨h1, h2, h3, h4, h5, h6⟩ := h0
  refine ⟨head_gap _ h1 fun z => absurd z h2, fun a => ?_⟩
  have h7 : ¬ isLong ((c :: 32 :: rest).take 2) = true := by
    rw [isLong_eq]
    intro z
    have z2 : [c, 32] ∈ longL := of_decide_eq_true z
    unfold longL at z2
    simp at z2
  have e : tokR a (c :: 32 :: rest) = ((kFault, a, .str notAllowed), a) := (if_neg h3).trans ((if_neg h4).trans ((if_neg h5).trans ((if_neg h7).trans (if_neg h6))))
  show (tokR a (c :: 32 :: rest)).1 = _
  rw [e]
  rfl
theorem bad_num {z m : Nat} (hm : 300 ≤ m) (rest : List Nat) : Bad (List.replicate z 48 ++ [49] ++ List.replicate m 48 ++ [32]) rest 0 tooGreat := by
  have hd : ∀ d ∈ List.replicate z 48 ++ [49] ++ List.replicate m 48, Lx.isDig d = true := fun d hd => by
    rcases List.mem_append.mp hd with h | h
    · rcases List.mem_append.mp h with h | h
      · rw [(List.mem_replicate.mp h).2]
        rfl
      · have : d = 49 := by simpa using h
        rw [this]
        rfl
    · rw [(List.mem_replicate.mp h).2]
      rfl
  have e0 : (List.replicate z 48 ++ [49] ++ List.replicate m 48 ++ [32]) ++ rest = (List.replicate z 48 ++ [49] ++ List.replicate m 48) ++ (32 :: rest) := by
    rw [List.append_assoc]
    rfl
  have hh : ∃ c r, List.replicate z 48 ++ [49] ++ List.replicate m 48 = c :: r ∧ Lx.isDig c = true := by
    cases h : List.replicate z 48 ++ [49] ++ List.replicate m 48 with
    | nil =>
      have := congrArg List.length h
      simp at this
    | cons c r =>
      rw [h] at hd
      exact ⟨c, r, rfl, hd c (List.mem_cons_self ..)⟩
  obtain ⟨c, r, ec, hc⟩ := hh
  have hr : Lx.run Lx.isDig (List.replicate z 48 ++ [49] ++ List.replicate m 48 ++ 32 :: rest) = (List.replicate z 48 ++ [49] ++ List.replicate m 48).length := Lx.run_app _ _ _ hd fun d h => by
    have : d = 32 := (Option.some.inj h).symm
    rw [this]
    rfl
  have hs : strip (List.replicate z 48 ++ [49] ++ List.replicate m 48) = 49 :: List.replicate m 48 := by
    clear hr ec hd e0
    induction z with
    | zero =>
      show List.dropWhile _ ([] ++ [49] ++ List.replicate m 48) = _
      rfl
    | succ z ih =>
      rw [List.replicate_succ]
      exact ih
  have dn := dig_ne hc
  refine ⟨?_, fun a => ?_⟩
  · rw [e0, ec]
    exact head_gap _ dn.1 fun z => absurd z dn.2.1
  · rw [e0]
    have et : tokR a (List.replicate z 48 ++ [49] ++ List.replicate m 48 ++ 32 :: rest) = numT a (List.replicate z 48 ++ [49] ++ List.replicate m 48 ++ 32 :: rest) := by
      rw [ec]
      exact (if_neg dn.2.2).trans (if_pos hc)
    rw [et]
    unfold numT
    rw [hr, List.take_left]
    have h300 : 300 < (strip (List.replicate z 48 ++ [49] ++ List.replicate m 48)).length := by
      rw [hs, List.length_cons, List.length_replicate]
      omega
    have e1 : (if 300 < (strip (List.replicate z 48 ++ [49] ++ List.replicate m 48)).length then ((kFault, a, V.str tooGreat), a) else ((kNumber, a, V.int (digVal (List.replicate z 48 ++ [49] ++ List.replicate m 48) : Nat)), a + (List.replicate z 48 ++ [49] ++ List.replicate m 48).length)) = ((kFault, a, V.str tooGreat), a) := if_pos h300
    exact congrArg Prod.fst e1
/-- the inner part of a wrong text: it is read without a fault -/
def Inner (m : List Nat) : Prop := ∀ (start a : Nat) (acc r : List Nat), ∃ acc', Lx.scanT start a acc (m ++ r) = Lx.scanT start (a + m.length) acc' r
theorem inner_plain {m : List Nat} (h : ∀ c ∈ m, Lx.isChr c = true ∧ c ≠ 34 ∧ c ≠ 92 ∧ c ≠ 10) : Inner m := by
  induction m with
  | nil => exact fun start a acc r => ⟨acc, rfl⟩
  | cons c m ih =>
    intro start a acc r
    obtain ⟨acc', e⟩ := ih (fun d hd => h d (List.mem_cons_of_mem _ hd)) start (a + 1) (acc ++ [c]) r
    obtain ⟨h1, h2, h3, h4⟩ := h c (List.mem_cons_self ..)
    refine ⟨acc', ?_⟩
    have hf : faultAt start a (c :: (m ++ r)) = none := by
      show (if c = 10 then _ else if c = 92 then _ else if Lx.isChr c = true then none else some (a, 2)) = none
      rw [if_neg h4, if_neg h3, if_pos h1]
    rw [List.cons_append, scan_plain h2 h3 hf, e, List.length_cons, show a + 1 + m.length = a + (m.length + 1) by omega]
theorem inner_app {m n : List Nat} (hm : Inner m) (hn : Inner n) : Inner (m ++ n) := fun start a acc r => by
  obtain ⟨a1, e1⟩ := hm start a acc (n ++ r)
  obtain ⟨a2, e2⟩ := hn start (a + m.length) a1 r
  exact ⟨a2, by rw [List.append_assoc, e1, e2, List.length_append, Nat.add_assoc]⟩
theorem inner_pair : Inner [92, 92] := fun start a acc r => ⟨acc ++ [92], scan_esc (by decide)⟩
theorem bad_text {m f rest : List Nat} {why : Nat} (hm : Inner m) (o : Nat) (ho : ∀ a acc, Lx.scanT a (a + 1 + m.length) acc (f ++ rest) = .bad (a + o) why) : Bad (34 :: m ++ f) rest o (msg why) := by
  refine ⟨head_gap _ (by decide) fun z => absurd z (by decide), fun a => ?_⟩
  have e : 34 :: m ++ f ++ rest = 34 :: (m ++ (f ++ rest)) := by
    rw [List.cons_append, List.cons_append, List.append_assoc]
  rw [e]
  have et : tokR a (34 :: (m ++ (f ++ rest))) = textT a (m ++ (f ++ rest)) := rfl
  rw [et]
  obtain ⟨acc', e2⟩ := hm a (a + 1) [] (f ++ rest)
  unfold textT
  rw [e2, ho]
theorem Grown.bad {T b f rest : List Nat} {due : List Tk} {o : Nat} {m : Str} (G : Grown T due b) (h : Bad f rest o m) : Cut (T ++ [32] ++ f ++ rest) 0 (due ++ [(kFault, (T ++ [32]).length + o, .str m)]) := by
  have e : T ++ [32] ++ f ++ rest = T ++ (32 :: (f ++ rest)) := by simp
  rw [e]
  refine G _ _ (Fol.cons (after_blank b).1) ?_
  have hd : (T ++ (32 :: (f ++ rest))).drop T.length = 32 :: (f ++ rest) := List.drop_left
  have hg : Lx.gap ((T ++ (32 :: (f ++ rest))).drop T.length) = 1 := by rw [hd, Lx.gap_blank _ (.inl rfl), h.1]
  have hd2 : (T ++ (32 :: (f ++ rest))).drop (T.length + 1) = f ++ rest := by rw [← List.drop_drop, hd, List.drop_one]; rfl
  refine .last (n := (tokR (T.length + 1) (f ++ rest)).2) ?_ (show (kFault == kEnd || kFault == kFault) = true by decide +kernel)
  rw [hg, hd2, List.length_append]
  exact Prod.ext (h.2 _) rfl
end My
/-! ### _law_piece, _law_gap -/
namespace My
open PySem L2 SX
open C8 (pss_cut tCut cutS_slice pe_gc)
def signL : List (List Nat) := [[61, 61], [33, 61], [60, 61], [62, 61], [40], [41], [91], [93], [123], [125], [44], [59], [58], [46], [61], [60], [62], [43], [45], [42], [47]]
theorem piece_sign {l : List Nat} (h : l ∈ signL) : PieceOk l kSign (.str (S l)) := by
  unfold signL at h
  simp only [List.mem_cons, List.not_mem_nil, or_false] at h
  rcases h with rfl | rfl | rfl | rfl | h
  · exact piece_long (.inl rfl)
  · exact piece_long (.inr (.inl rfl))
  · exact piece_long (.inr (.inr (.inl rfl)))
  · exact piece_long (.inr (.inr (.inr rfl)))
  · rcases h with rfl | rfl | rfl | rfl | rfl | rfl | rfl | rfl | rfl | rfl | rfl | rfl | rfl | rfl | rfl | rfl | rfl <;> exact piece_short (by decide)
theorem wordAt_mem (r : Int) : wordAt r ∈ wordsL := by
  obtain ⟨l, hl, e1, _⟩ := at_map wordsL (k := r % 25) (Int.emod_nonneg _ (by decide)) (Int.emod_lt_of_pos _ (by decide))
  unfold wordAt
  rw [List.getD_eq_getElem?_getD, e1]
  exact hl
theorem piece_word (r : Int) : PieceOk (wordAt r) kWord (.str (S (wordAt r))) := by
  have hm := wordAt_mem r
  have h1 : isWord (wordAt r) = true := by
    rw [isWord_eq]
    exact decide_eq_true hm
  have h2 := (by decide : ∀ l ∈ wordsL, l ≠ [] ∧ Lx.isLet (l.headD 0) = true ∧ (∀ d ∈ l, Lx.isWc d = true) ∧ l.length ≤ 400) _ hm
  cases hw : wordAt r with
  | nil => exact absurd hw h2.1
  | cons c m =>
    rw [hw] at h1 h2
    have := piece_name (p := c :: m) rfl h2.2.1 h2.2.2.1 h2.2.2.2
    rw [if_pos h1] at this
    exact this
theorem nameAt_ok (r : Int) : ∃ c m, nameAt r = c :: m ∧ Lx.isLet c = true ∧ (∀ d ∈ nameAt r, Lx.isWc d = true) ∧ (nameAt r).length ≤ 400 ∧ 95 ∈ nameAt r := by
  have hg : ∀ k : Int, 0 ≤ k → k < 23 → Lx.isLet (nameC.getD k.toNat 0) = true := fun k h0 h1 => by
    obtain ⟨j, rfl⟩ := Int.eq_ofNat_of_zero_le h0
    rw [Int.toNat_natCast]
    exact (by decide : ∀ j, j < 23 → Lx.isLet (nameC.getD j 0) = true) j (by omega)
  have h1 := hg (r % 23) (Int.emod_nonneg _ (by decide)) (Int.emod_lt_of_pos _ (by decide))
  have h2 := hg (r / 23 % 23) (Int.emod_nonneg _ (by decide)) (Int.emod_lt_of_pos _ (by decide))
  have p0 : 0 ≤ r / 1587 % 100 := Int.emod_nonneg _ (by decide)
  have p1 : r / 1587 % 100 < 100 := Int.emod_lt_of_pos _ (by decide)
  have wl : ∀ {c}, Lx.isLet c = true → Lx.isWc c = true := fun h => by
    unfold Lx.isWc
    rw [h]
    rfl
  have hnl : (TL.numL (r / 1587 % 100).toNat).length ≤ 2 := TL.numL_len (by decide) (by omega)
  refine ⟨_, _, rfl, h1, ?_, ?_, ?_⟩
  · intro d hd
    unfold nameAt at hd
    rcases List.mem_append.mp hd with h | h
    · simp only [List.mem_cons, List.not_mem_nil, or_false] at h
      rcases h with rfl | rfl | rfl
      · exact wl h1
      · exact wl h2
      · rfl
    · split at h
      · have h := TL.numL_digits _ d h
        unfold Lx.isWc Lx.isDig
        simp
        right
        omega
      · cases h
  · unfold nameAt
    rw [List.length_append]
    split
    · show 3 + _ ≤ 400
      omega
    · show 3 + 0 ≤ 400
      omega
  · unfold nameAt
    exact List.mem_append_left _ (by simp)
theorem piece_nameAt (r : Int) : PieceOk (nameAt r) kName (.str (S (nameAt r))) := by
  obtain ⟨c, m, e, h1, h2, h3, h4⟩ := nameAt_ok r
  have hn : ¬ isWord (nameAt r) = true := by
    rw [isWord_eq]
    intro z
    exact (by decide : ∀ l ∈ wordsL, 95 ∉ l) _ (of_decide_eq_true z) h4
  have := piece_name e h1 h2 h3
  rw [if_neg hn] at this
  exact this
theorem zeros_val (z : Nat) (n : Nat) : NumText.digitsVal (List.replicate z 48 ++ TL.numL n) = n := by
  induction z with
  | zero =>
    show NumText.digitsVal (TL.numL n) = n
    exact TL.numL_val n
  | succ z ih =>
    rw [List.replicate_succ, List.cons_append, ← digVal_eq]
    have h2 : digVal (48 :: (List.replicate z 48 ++ TL.numL n)) = digVal (List.replicate z 48 ++ TL.numL n) := by
      unfold digVal
      rfl
    rw [h2, digVal_eq, ih]
theorem piece_number (z n : Nat) (hz : z ≤ 300) (hn : n < 10 ^ 15) : PieceOk (List.replicate z 48 ++ TL.numL n) kNumber (.int (n : Int)) := by
  have hl : (TL.numL n).length ≤ 15 := TL.numL_len (by decide) hn
  have := piece_num (p := List.replicate z 48 ++ TL.numL n) (by
      intro h
      exact TL.numL_ne n (List.append_eq_nil_iff.mp h).2) (by
      intro d hd
      rcases List.mem_append.mp hd with h | h
      · rw [(List.mem_replicate.mp h).2]
        rfl
      · have h := TL.numL_digits n d h
        unfold Lx.isDig
        simp
        omega) (by
      have e : strip (List.replicate z 48 ++ TL.numL n) = strip (TL.numL n) := by
        clear hz
        induction z with
        | zero => rfl
        | succ z ih =>
          rw [List.replicate_succ]
          exact ih
      rw [e]
      exact Nat.le_trans (List.dropWhile_sublist _).length_le (by omega)) (by
      rw [List.length_append, List.length_replicate]
      omega)
  rw [zeros_val] at this
  exact this
section
variable {P : Program} {w : World} {K : PySem.W.Frag} {mg : Str → Option Value} {base : Heap} {wA lA eA : Addr}
local macro_rules | `(tactic| walk_at "sz") => `(tactic| first | assumption | (simp only [S_len, List.length_append, List.length_cons, List.length_nil, List.length_take, List.length_drop] <;> omega))
/-- the law's defs, where they stand -/
structure LawD (K : PySem.W.Frag) (mg : Str → Option Value) (aR aW aN aT aS aP aG : Addr) (dR dW dN dT dS dP dG : FuncData) : Prop where
  fR : Fun K "_law_rows" "_law_rows" sRows aR dR
  bR : Binds K dR ["script", "count"] []
  gR : mg "_law_rows" = some (.ref aR)
  fW : Fun K "_law_word" "_law_word" sLawWord aW dW
  bW : Binds K dW ["row"] []
  gW : mg "_law_word" = some (.ref aW)
  fN : Fun K "_law_name" "_law_name" sLawName aN dN
  bN : Binds K dN ["row"] []
  gN : mg "_law_name" = some (.ref aN)
  fT : Fun K "_law_text" "_law_text" sLawText aT dT
  bT : Binds K dT ["row"] []
  gT : mg "_law_text" = some (.ref aT)
  fS : Fun K "_law_spelled" "_law_spelled" sLawSpelled aS dS
  bS : Binds K dS ["text"] []
  gS : mg "_law_spelled" = some (.ref aS)
  fP : Fun K "_law_piece" "_law_piece" (top 26) aP dP
  bP : Binds K dP ["row"] []
  gP : mg "_law_piece" = some (.ref aP)
  fG : Fun K "_law_gap" "_law_gap" (top 27) aG dG
  bG : Binds K dG ["row", "before", "after"] []
  gG : mg "_law_gap" = some (.ref aG)
variable {aR aW aN aT aS aP aG : Addr} {dR dW dN dT dS dP dG : FuncData}
abbrev sLawPiece : Stmt := top 26
theorem scLawPiece : FnScope ["row", "kind", "rest", "number", "signs"] ["row"] (defScope sLawPiece) := ⟨rfl, rfl, rfl, by decide +kernel, rfl, by decide +kernel, by decide +kernel⟩
def spLawPiece : Sp := fun vs H Q _ => ∃ (r : Int), vs = [.int r] ∧ ∀ H' o (p : List Nat) (k : Str) (v : V), Same H H' → H o = none → H' o = some (.lst [.str (S p), .str k, v]) → PieceOk p k v → v ≠ .non → PyData.strOk k = true → Q (.ref o) H'
theorem okLawPiece (D : LawD K mg aR aW aN aT aS aP aG dR dW dN dT dS dP dG) (B : Bl mg) : FnOk P w K mg base CX0 2 aP dP ["row"] spLawPiece := by
  have G_law_word : FnOk P w K mg base CX0 1 aW dW ["row"] spLawWord := okLawWord D.fW B
  have G_law_name : FnOk P w K mg base CX0 1 aN dN ["row"] spLawName := okLawName D.fN B
  have G_law_text : FnOk P w K mg base CX0 1 aT dT ["row"] spLawText := okLawText D.fT B
  have G_law_spelled : FnOk P w K mg base CX0 1 aS dS ["text"] spLawSpelled := okLawSpelled D.fS
  refine D.fP.ok scLawPiece (fun vs H Q E h => ?_) (fun cdv A outer s H vs Q E hr h => ?_)
  · obtain ⟨r, rfl, _⟩ := h
    rfl
  · obtain ⟨r, rfl, q⟩ := h
    have hz := sizeLine_eq
    refine ⟨_, pss_cons (ps_set (i := 1) scLawPiece.nd rfl (.inl rfl) (pe_op op_mod (pe_callTy call_int1 (by rfl) B.int (by decide +kernel) (pa_cons (pv 0) pa_nil)) pe_int))
      (pss_cons (ps_set (i := 2) scLawPiece.nd rfl (.inl rfl) (pe_op op_fdiv (pv 0) pe_int))
      (pss_cons (ps_if (pt_cmpR op_eq (pv 1) pe_int (nomark _))
        (pss_one (ps_ret (pe_lst (pa_cons (pe_call G_law_word (hr.mono (by decide)) (by rfl) D.gW D.fW.kp D.bW .nil pass0 (pa_cons (pv 2) pa_nil)) (pa_cons pe_str (pa_cons (pe_call G_law_word (hr.mono (by decide)) (by rfl) D.gW D.fW.kp D.bW .nil pass0 (pa_cons (pv 2) pa_nil)) pa_nil))))))
        pss_nil)
      (pss_cons (ps_if (pt_cmpR op_eq (pv 1) pe_int (nomark _))
        (pss_one (ps_ret (pe_lst (pa_cons (pe_call G_law_name (hr.mono (by decide)) (by rfl) D.gN D.fN.kp D.bN .nil pass0 (pa_cons (pv 2) pa_nil)) (pa_cons pe_str (pa_cons (pe_call G_law_name (hr.mono (by decide)) (by rfl) D.gN D.fN.kp D.bN .nil pass0 (pa_cons (pv 2) pa_nil)) pa_nil))))))
        pss_nil)
      (pss_cons (ps_if (pt_cmpR op_eq (pv 1) pe_int (nomark _))
        (pss_cons (ps_set (i := 3) scLawPiece.nd rfl (.inl rfl) (pe_op op_mod (pe_callTy call_int1 (by rfl) B.int (by decide +kernel) (pa_cons (pv 2) pa_nil)) (pe_ix ix_list (pe_lst (pa_cons pe_int (pa_cons pe_int (pa_cons pe_int (pa_cons pe_int (pa_cons pe_int pa_nil)))))) (pe_op op_mod (pe_callTy call_int1 (by rfl) B.int (by decide +kernel) (pa_cons (pe_op op_fdiv (pv 2) pe_int) pa_nil)) pe_int) (fun _ _ => rfl))))
        (pss_one (ps_ret (pe_lst (pa_cons (pe_op op_add_str (pe_op op_mul_str pe_str (pe_ix ix_list (pe_lst (pa_cons pe_int (pa_cons pe_int (pa_cons pe_int (pa_cons pe_int pa_nil))))) (pe_op op_mod (pe_callTy call_int1 (by rfl) B.int (by decide +kernel) (pa_cons (pe_op op_fdiv (pv 2) pe_int) pa_nil)) pe_int) (fun _ _ => rfl))) (pe_callTy call_str_int (by rfl) B.str (by decide +kernel) (pa_cons (pv 3) pa_nil))) (pa_cons pe_str (pa_cons (pv 3) pa_nil)))))))
        pss_nil)
      (pss_cons (ps_if (pt_cmpR op_eq (pv 1) pe_int (nomark _))
        (pss_one (ps_ret (pe_lst (pa_cons (pe_call G_law_spelled (hr.mono (by decide)) (by rfl) D.gS D.fS.kp D.bS .nil pass0 (pa_cons (pe_call G_law_text (hr.mono (by decide)) (by rfl) D.gT D.fT.kp D.bT .nil pass0 (pa_cons (pv 2) pa_nil)) pa_nil)) (pa_cons pe_str (pa_cons (pe_call G_law_text (hr.mono (by decide)) (by rfl) D.gT D.fT.kp D.bT .nil pass0 (pa_cons (pv 2) pa_nil)) pa_nil))))))
        pss_nil)
      (pss_cons (ps_set (i := 4) scLawPiece.nd rfl (.inl rfl) (pe_lst (pa_cons pe_str (pa_cons pe_str (pa_cons pe_str (pa_cons pe_str (pa_cons pe_str (pa_cons pe_str (pa_cons pe_str (pa_cons pe_str (pa_cons pe_str (pa_cons pe_str (pa_cons pe_str (pa_cons pe_str (pa_cons pe_str (pa_cons pe_str (pa_cons pe_str (pa_cons pe_str (pa_cons pe_str (pa_cons pe_str (pa_cons pe_str (pa_cons pe_str (pa_cons pe_str pa_nil)))))))))))))))))))))))
      (pss_one (ps_ret (pe_lst (pa_cons (pe_ix ix_list (pv 4) (pe_op op_mod (pe_callTy call_int1 (by rfl) B.int (by decide +kernel) (pa_cons (pv 2) pa_nil)) pe_int) (fun _ _ => rfl)) (pa_cons pe_str (pa_cons (pe_ix ix_list (pv 4) (pe_op op_mod (pe_callTy call_int1 (by rfl) B.int (by decide +kernel) (pa_cons (pv 2) pa_nil)) pe_int) (fun _ _ => rfl)) pa_nil)))))))))))), ?_⟩
    -- kind = int(row) % 5
    refine ⟨_, rfl, .inl ⟨_, rfl, _, _, rfl, rfl, (by show (0 : Int) < 5; decide), ?_⟩⟩
    -- rest = row // 5
    refine ⟨_, rfl, _, _, rfl, rfl, ⟨by decide, by decide⟩, ?_⟩
    dsimp only
    generalize r / 5 = t
    -- if kind == 0:
    refine ⟨_, rfl, rfl, _, rfl, ite2 (fun e => ?_) (fun e => ?_)⟩
    · refine ⟨_, rfl, t, rfl, fun H1 s1 => ⟨_, rfl, t, rfl, fun H2 s2 => ?_⟩⟩
      refine ⟨(by show 3 ≤ sizeLine; decide), fun p1 n1 => ?_⟩
      exact q _ p1 (wordAt t) kWord _ ((s1.trans s2).trans (same_upd n1)) ((s1.trans s2).free n1) upd_same (piece_word t) (fun z => by cases z) (by decide +kernel)
    -- if kind == 1:
    refine ⟨_, rfl, rfl, _, rfl, ite2 (fun e => ?_) (fun e => ?_)⟩
    · refine ⟨_, rfl, t, rfl, _, rfl, t, rfl, ?_⟩
      refine ⟨(by show 3 ≤ sizeLine; decide), fun p1 n1 => ?_⟩
      exact q _ p1 (nameAt t) kName _ (same_upd n1) n1 upd_same (piece_nameAt t) (fun z => by cases z) (by decide +kernel)
    -- if kind == 2:
    refine ⟨_, rfl, rfl, _, rfl, ite2 (fun e => ?_) (fun e => ?_)⟩
    · -- number = int(rest) % [1, 10, 1000, 1000000, 1000000000000][int(rest // 3) % 5]
      refine ⟨_, rfl, .inl ⟨_, rfl, (by show 5 ≤ sizeLine; decide), fun p1 n1 => ?_⟩⟩
      have a0 : 0 ≤ t / 3 % 5 := Int.emod_nonneg _ (by decide)
      have a1 : t / 3 % 5 < 5 := Int.emod_lt_of_pos _ (by decide)
      obtain ⟨j, ej⟩ := Int.eq_ofNat_of_zero_le a0
      obtain ⟨m, hm, hm0, hm1⟩ : ∃ m : Int, ([V.int 1, V.int 10, V.int 1000, V.int 1000000, V.int 1000000000000] : List V)[j]? = some (V.int m) ∧ 0 < m ∧ m ≤ 1000000000000 := by
        have hj : j = 0 ∨ j = 1 ∨ j = 2 ∨ j = 3 ∨ j = 4 := by omega
        rcases hj with rfl | rfl | rfl | rfl | rfl
        · exact ⟨1, rfl, by decide, by decide⟩
        · exact ⟨10, rfl, by decide, by decide⟩
        · exact ⟨1000, rfl, by decide, by decide⟩
        · exact ⟨1000000, rfl, by decide, by decide⟩
        · exact ⟨1000000000000, rfl, by decide, by decide⟩
      have b0 : 0 ≤ t % m := Int.emod_nonneg _ (by omega)
      have b1 : t % m < m := Int.emod_lt_of_pos _ hm0
      obtain ⟨n, en⟩ := Int.eq_ofNat_of_zero_le b0
      refine ⟨_, rfl, _, _, rfl, rfl, ⟨by decide, by decide⟩, .inl ⟨_, rfl, _, _, rfl, rfl, (by show (0 : Int) < 5; decide), p1, _, _, _, rfl, rfl, SqL.of upd_same, at_ofN (j := j) ej hm, _, _, rfl, rfl, hm0, ?_⟩⟩
      dsimp only
      rw [en]
      have c0 : 0 ≤ t / 40 % 4 := Int.emod_nonneg _ (by decide)
      have c1 : t / 40 % 4 < 4 := Int.emod_lt_of_pos _ (by decide)
      obtain ⟨jz, ejz⟩ := Int.eq_ofNat_of_zero_le c0
      obtain ⟨z, hzz, hz3⟩ : ∃ z : Nat, ([V.int 0, V.int 1, V.int 2, V.int 300] : List V)[jz]? = some (V.int (z : Int)) ∧ z ≤ 300 := by
        have hj : jz = 0 ∨ jz = 1 ∨ jz = 2 ∨ jz = 3 := by omega
        rcases hj with rfl | rfl | rfl | rfl
        · exact ⟨0, rfl, by decide⟩
        · exact ⟨1, rfl, by decide⟩
        · exact ⟨2, rfl, by decide⟩
        · exact ⟨300, rfl, by decide⟩
      have hn15 : n < 10 ^ 15 := by
        have : (n : Int) < 1000000000000 := by omega
        omega
      have hnl : (TL.numL n).length ≤ 15 := TL.numL_len (by decide) hn15
      have hlog : ((n : Nat) : Int).natAbs.log2 < 1920 := by
        show n.log2 < 1920
        have h1 : n < 2 ^ 50 := by
          have : (10 : Nat) ^ 15 < 2 ^ 50 := by decide
          omega
        by_cases h0 : n = 0
        · subst h0
          decide
        · have := (Nat.log2_lt h0).mpr h1
          omega
      have e48 : (("0" : Str)) = S [48] := by decide +kernel
      -- return ['0' * (int(rest // 40) % 3) + str(number), 'number', number]
      refine ⟨(by show 4 ≤ sizeLine; decide), fun p3 n3 => ?_⟩
      refine ⟨_, rfl, _, _, rfl, rfl, ⟨by decide, by decide⟩, .inl ⟨_, rfl, _, _, rfl, rfl, (by show (0 : Int) < 4; decide), p3, _, _, _, rfl, rfl, SqL.of upd_same, at_ofN (j := jz) ejz hzz, _, _, rfl, rfl, ?_, ?_⟩⟩
      · rw [e48]
        exact mulOk_one 48 z (by omega)
      rw [e48, mul_one]
      refine ⟨_, rfl, _, rfl, hlog, ?_⟩
      rw [num_S]
      refine ⟨_, _, rfl, rfl, ?_, ?_⟩
      · rw [S_len, S_len, List.length_replicate]
        omega
      rw [S_cat]
      refine ⟨_, rfl, (by show 3 ≤ sizeLine; decide), fun p2 n2 => ?_⟩
      have s1 := same_upd (o := .lst [V.int 1, V.int 10, V.int 1000, V.int 1000000, V.int 1000000000000]) n1
      have s3 := same_upd (o := .lst [V.int 0, V.int 1, V.int 2, V.int 300]) n3
      exact q _ p2 (List.replicate z 48 ++ TL.numL n) kNumber _ ((s1.trans s3).trans (same_upd n2)) ((s1.trans s3).free n2) upd_same (piece_number z n (by omega) hn15) (fun z => by cases z) (by decide +kernel)
    -- if kind == 3:
    refine ⟨_, rfl, rfl, _, rfl, ite2 (fun e => ?_) (fun e => ?_)⟩
    · have ht := textGo_ok (t / 7 % 6).toNat 0 t
      have h6 : t / 7 % 6 < 6 := Int.emod_lt_of_pos _ (by decide)
      have hl : (textAt t).length ≤ 100 := by
        show (textGo _ _ _).length ≤ 100
        rw [ht.1]
        omega
      refine ⟨_, rfl, t, rfl, fun H1 s1 => ⟨textAt t, rfl, hl, _, rfl, t, rfl, fun H2 s2 => ?_⟩⟩
      refine ⟨(by show 3 ≤ sizeLine; decide), fun p1 n1 => ?_⟩
      exact q _ p1 _ kText _ ((s1.trans s2).trans (same_upd n1)) ((s1.trans s2).free n1) upd_same (piece_text ht.2 hl) (fun z => by cases z) (by decide +kernel)
    -- signs
    refine ⟨(by show 21 ≤ sizeLine; omega), fun p1 n1 => ?_⟩
    have eS : ([V.str "==", V.str "!=", V.str "<=", V.str ">=", V.str "(", V.str ")", V.str "[", V.str "]", V.str "{", V.str "}", V.str ",", V.str ";", V.str ":", V.str ".", V.str "=", V.str "<", V.str ">", V.str "+", V.str "-", V.str "*", V.str "/"] : List V) = signL.map fun l => V.str (S l) := by decide +kernel
    obtain ⟨l, hl, _, e2⟩ := at_map signL (k := t % 21) (Int.emod_nonneg _ (by decide)) (Int.emod_lt_of_pos _ (by decide))
    rw [← eS] at e2
    refine ⟨_, rfl, _, rfl, .inl ⟨_, rfl, _, _, rfl, rfl, (by show (0 : Int) < 21; decide), p1, _, _, _, rfl, rfl, SqL.of upd_same, e2, _, rfl, _, rfl, .inl ⟨_, rfl, _, _, rfl, rfl, (by show (0 : Int) < 21; decide), p1, _, _, _, rfl, rfl, SqL.of upd_same, e2, (by show 3 ≤ sizeLine; decide), fun p2 n2 => ?_⟩⟩⟩
    have s1 := same_upd (o := .lst [V.str "==", V.str "!=", V.str "<=", V.str ">=", V.str "(", V.str ")", V.str "[", V.str "]", V.str "{", V.str "}", V.str ",", V.str ";", V.str ":", V.str ".", V.str "=", V.str "<", V.str ">", V.str "+", V.str "-", V.str "*", V.str "/"]) n1
    exact q _ p2 l kSign _ (s1.trans (same_upd n2)) (s1.free n2) upd_same (piece_sign hl) (fun z => by cases z) (by decide +kernel)
end
end My
/-! ### _law_wrong -/
namespace My
open PySem L2 SX
open C8 (pss_cut tCut cutS_slice pe_gc)
theorem cut_to (l : List Nat) (i : Nat) : cutS (S l) none (some (i : Int)) = S (l.take i) := by
  rw [cutS_slice, slice_to (by omega), Int.toNat_natCast]
theorem nat_of {x : Int} (h : 0 ≤ x) : ∃ n : Nat, x = (n : Int) := Int.eq_ofNat_of_zero_le h
theorem inner_take (j : Nat) : Inner (List.take j [97, 98, 32, 99]) := inner_plain fun c hc => by
  have := List.mem_of_mem_take hc
  exact (by decide : ∀ c ∈ [97, 98, 32, 99], Lx.isChr c = true ∧ c ≠ 34 ∧ c ≠ 92 ∧ c ≠ 10) c this
theorem inner_slash (b : Nat) (hb : b < 2) : Inner (List.take (2 * b) [92, 92]) := by
  have h : b = 0 ∨ b = 1 := by omega
  rcases h with rfl | rfl
  · exact inner_plain (m := []) fun c hc => by cases hc
  · exact inner_pair
section
variable {P : Program} {w : World} {K : PySem.W.Frag} {mg : Str → Option Value} {base : Heap} {wA lA eA : Addr}
variable {aR aW aN aT aS aP aG : Addr} {dR dW dN dT dS dP dG : FuncData}
abbrev sLawWrong : Stmt := top 28
theorem scLawWrong : FnScope ["row", "rest", "chars", "inner"] ["row"] (defScope sLawWrong) := ⟨rfl, rfl, rfl, by decide +kernel, rfl, by decide +kernel, by decide +kernel⟩
def spLawWrong : Sp := fun vs H Q _ => ∃ (r : Int), vs = [.int r] ∧ ∀ H' o (f : List Nat) (off : Nat) (m : Str), Same H H' → H o = none → H' o = some (.lst [.str (S f), .int (off : Int), .str m]) →
  (∀ rest, (r % 8 = 5 ∨ r % 8 = 7 → rest = []) → Bad f rest off m) → f.length ≤ 400 → PyData.strOk m = true → Q (.ref o) H'
theorem okLawWrong {f : Addr} {fd : FuncData} (F : Fun K "_law_wrong" "_law_wrong" sLawWrong f fd) (B : Bl mg) : FnOk P w K mg base CX0 1 f fd ["row"] spLawWrong := by
  refine F.ok scLawWrong (fun vs H Q E h => ?_) (fun cdv A outer s H vs Q E hr h => ?_)
  · obtain ⟨r, rfl, _⟩ := h
    rfl
  · obtain ⟨r, rfl, q⟩ := h
    have hz := sizeLine_eq
    refine ⟨_, pss_cons (ps_set (i := 1) scLawWrong.nd rfl (.inl rfl) (pe_op op_fdiv (pv 0) pe_int))
      (pss_cons (ps_if (pt_cmpR op_lt (pe_op op_mod (pv 0) pe_int) pe_int (nomark _))
        (pss_cons (ps_set (i := 2) scLawWrong.nd rfl (.inl rfl) (pe_lst (pa_cons pe_str (pa_cons pe_str (pa_cons pe_str (pa_cons pe_str (pa_cons pe_str (pa_cons pe_str (pa_cons pe_str (pa_cons pe_str (pa_cons pe_str (pa_cons pe_str (pa_cons pe_str (pa_cons pe_str pa_nil))))))))))))))
        (pss_one (ps_ret (pe_lst (pa_cons (pe_op op_add_str (pe_ix ix_list (pv 2) (pe_op op_mod (pe_callTy call_int1 (by rfl) B.int (by decide +kernel) (pa_cons (pv 1) pa_nil)) pe_int) (fun _ _ => rfl)) pe_str) (pa_cons pe_int (pa_cons pe_str pa_nil)))))))
        pss_nil)
      (pss_cons (ps_if (pt_cmpR op_eq (pe_op op_mod (pv 0) pe_int) pe_int (nomark _))
        (pss_one (ps_ret (pe_lst (pa_cons (pe_op op_add_str (pe_op op_add_str (pe_op op_add_str (pe_op op_mul_str pe_str (pe_op op_mod (pe_callTy call_int1 (by rfl) B.int (by decide +kernel) (pa_cons (pv 1) pa_nil)) pe_int)) pe_str) (pe_op op_mul_str pe_str (pe_op op_add pe_int (pe_op op_mod (pe_callTy call_int1 (by rfl) B.int (by decide +kernel) (pa_cons (pe_op op_fdiv (pv 1) pe_int) pa_nil)) pe_int)))) pe_str) (pa_cons pe_int (pa_cons pe_str pa_nil))))))
        pss_nil)
      (pss_cons (ps_set (i := 3) scLawWrong.nd rfl (.inl rfl) (pe_op op_add_str (pe_slice sl_str pe_str po_none (po_some (pe_op op_mod (pe_callTy call_int1 (by rfl) B.int (by decide +kernel) (pa_cons (pv 1) pa_nil)) pe_int))) (pe_slice sl_str pe_str po_none (po_some (pe_op op_mul pe_int (pe_op op_mod (pe_callTy call_int1 (by rfl) B.int (by decide +kernel) (pa_cons (pe_op op_fdiv (pv 1) pe_int) pa_nil)) pe_int))))))
      (pss_cons (ps_if (pt_cmpR op_eq (pe_op op_mod (pv 0) pe_int) pe_int (nomark _))
        (pss_cons (ps_set (i := 2) scLawWrong.nd rfl (.inl rfl) pe_str)
        (pss_one (ps_ret (pe_lst (pa_cons (pe_op op_add_str (pe_op op_add_str (pe_op op_add_str (pe_op op_add_str pe_str (pv 3)) pe_str) (pe_ix ix_str (pv 2) (pe_op op_mod (pe_callTy call_int1 (by rfl) B.int (by decide +kernel) (pa_cons (pe_op op_fdiv (pv 1) pe_int) pa_nil)) pe_int) (fun _ _ => rfl))) pe_str) (pa_cons (pe_op op_add pe_int (pe_callB call_len_str (by rfl) B.len PySem.boot_len (pa_cons (pv 3) pa_nil))) (pa_cons pe_str pa_nil)))))))
        pss_nil)
      (pss_cons (ps_if (pt_cmpR op_eq (pe_op op_mod (pv 0) pe_int) pe_int (nomark _))
        (pss_one (ps_ret (pe_lst (pa_cons (pe_op op_add_str (pe_op op_add_str pe_str (pv 3)) pe_str) (pa_cons pe_int (pa_cons pe_str pa_nil))))))
        pss_nil)
      (pss_cons (ps_if (pt_cmpR op_eq (pe_op op_mod (pv 0) pe_int) pe_int (nomark _))
        (pss_one (ps_ret (pe_lst (pa_cons (pe_op op_add_str pe_str (pv 3)) (pa_cons pe_int (pa_cons pe_str pa_nil))))))
        pss_nil)
      (pss_cons (ps_if (pt_cmpR op_eq (pe_op op_mod (pv 0) pe_int) pe_int (nomark _))
        (pss_one (ps_ret (pe_lst (pa_cons (pe_op op_add_str (pe_op op_add_str pe_str (pv 3)) pe_str) (pa_cons (pe_op op_add pe_int (pe_callB call_len_str (by rfl) B.len PySem.boot_len (pa_cons (pv 3) pa_nil))) (pa_cons pe_str pa_nil))))))
        pss_nil)
      (pss_one (ps_ret (pe_lst (pa_cons (pe_op op_add_str (pe_op op_add_str pe_str (pv 3)) pe_str) (pa_cons pe_int (pa_cons pe_str pa_nil))))))))))))), ?_⟩
    have e48 : (("0" : Str)) = S [48] := by decide +kernel
    have e49 : (("1" : Str)) = S [49] := by decide +kernel
    have e32 : ((" " : Str)) = S [32] := by decide +kernel
    have e34 : (("\"" : Str)) = S [34] := by decide +kernel
    have e92 : (("\\" : Str)) = S [92] := by decide +kernel
    have e9292 : (("\\\\" : Str)) = S [92, 92] := by decide +kernel
    have eab : (("ab c" : Str)) = S [97, 98, 32, 99] := by decide +kernel
    have eq32 : (("\" " : Str)) = S [34, 32] := by decide +kernel
    have e10 : (("\n" : Str)) = S [10] := by decide +kernel
    have etab : (("\t\" " : Str)) = S [9, 34, 32] := by decide +kernel
    have ech : (("aqtN0 '\n" : Str)) = S [97, 113, 116, 78, 48, 32, 39, 10] := by decide +kernel
    -- rest = row // 8
    refine ⟨_, rfl, _, _, rfl, rfl, ⟨by decide, by decide⟩, ?_⟩
    dsimp only
    generalize r / 8 = t
    -- if row % 8 < 2:
    refine ⟨_, rfl, _, _, rfl, rfl, (by show (0 : Int) < 8; decide), _, _, rfl, rfl, _, rfl, ite2 (fun e => ?_) (fun e => ?_)⟩
    · have h8 : r % 8 < 2 := of_decide_eq_true e
      have eC : ([V.str "#", V.str "&", V.str "@", V.str "!", V.str "?", V.str "~", V.str "^", V.str "|", V.str "$", V.str "'", V.str "\\", V.str "`"] : List V) = ([35, 38, 64, 33, 63, 126, 94, 124, 36, 39, 92, 96].map fun c => [c]).map fun l => V.str (S l) := by decide +kernel
      refine ⟨(by show 12 ≤ sizeLine; decide), fun p1 n1 => ?_⟩
      obtain ⟨l, hl, _, ea⟩ := at_map ([35, 38, 64, 33, 63, 126, 94, 124, 36, 39, 92, 96].map fun c => [c]) (k := t % 12) (Int.emod_nonneg _ (by decide)) (Int.emod_lt_of_pos _ (by decide))
      rw [← eC] at ea
      obtain ⟨c, hc, rfl⟩ := List.mem_map.mp hl
      refine ⟨_, rfl, _, rfl, .inl ⟨_, rfl, _, _, rfl, rfl, (by show (0 : Int) < 12; decide), p1, _, _, _, rfl, rfl, SqL.of upd_same, ea, ?_⟩⟩
      rw [e32]
      refine ⟨_, _, rfl, rfl, (by show 1 + 1 ≤ sizeLine; omega), ?_⟩
      rw [S_cat]
      refine ⟨(by show 3 ≤ sizeLine; decide), fun p2 n2 => ?_⟩
      have s1 := same_upd (o := .lst [V.str "#", V.str "&", V.str "@", V.str "!", V.str "?", V.str "~", V.str "^", V.str "|", V.str "$", V.str "'", V.str "\\", V.str "`"]) n1
      exact q _ p2 [c, 32] 0 notAllowed (s1.trans (same_upd n2)) (s1.free n2) upd_same (fun rest _ => bad_sign hc rest) (by show 2 ≤ 400; decide) (by decide +kernel)
    -- if row % 8 == 2:
    refine ⟨_, rfl, _, _, rfl, rfl, (by show (0 : Int) < 8; decide), rfl, _, rfl, ite2 (fun e2 => ?_) (fun e2 => ?_)⟩
    · obtain ⟨z, ez⟩ := nat_of (Int.emod_nonneg t (by decide : (4 : Int) ≠ 0))
      have hz4 : t % 4 < 4 := Int.emod_lt_of_pos _ (by decide)
      obtain ⟨y, ey⟩ := nat_of (Int.emod_nonneg (t / 4) (by decide : (3 : Int) ≠ 0))
      have hy3 : t / 4 % 3 < 3 := Int.emod_lt_of_pos _ (by decide)
      refine ⟨_, rfl, .inl ⟨_, rfl, _, _, rfl, rfl, (by show (0 : Int) < 4; decide), _, _, rfl, rfl, ?_, ?_⟩⟩
      · rw [e48, ez]
        exact mulOk_one 48 z (by omega)
      dsimp only
      rw [e48, ez, mul_one, e49]
      refine ⟨_, _, rfl, rfl, (by rw [S_len, S_len, List.length_replicate]; show z + 1 ≤ sizeLine; omega), ?_⟩
      rw [S_cat]
      refine ⟨_, rfl, _, _, rfl, rfl, ⟨by decide, by decide⟩, .inl ⟨_, rfl, _, _, rfl, rfl, (by show (0 : Int) < 3; decide), _, _, rfl, rfl, _, _, rfl, rfl, ?_, ?_⟩⟩
      · rw [ey]
        exact mulOk_one 48 (300 + y) (by omega)
      dsimp only
      rw [ey, show (300 : Int) + (y : Int) = ((300 + y : Nat) : Int) by omega, mul_one, e32]
      refine ⟨_, _, rfl, rfl, (by rw [S_len, S_len, List.length_append, List.length_replicate, List.length_replicate]; show z + 1 + _ ≤ sizeLine; omega), ?_⟩
      rw [S_cat]
      refine ⟨_, _, rfl, rfl, (by rw [S_len, S_len, List.length_append, List.length_append, List.length_replicate, List.length_replicate]; show z + 1 + _ + 1 ≤ sizeLine; omega), ?_⟩
      rw [S_cat]
      refine ⟨(by show 3 ≤ sizeLine; decide), fun p2 n2 => ?_⟩
      exact q _ p2 _ 0 tooGreat (same_upd n2) n2 upd_same (fun rest _ => bad_num (z := z) (m := 300 + y) (by omega) rest) (by rw [List.length_append, List.length_append, List.length_append, List.length_replicate, List.length_replicate]; show z + 1 + _ + 1 ≤ 400; omega) (by decide +kernel)
    -- inner
    obtain ⟨j, ej⟩ := nat_of (Int.emod_nonneg t (by decide : (5 : Int) ≠ 0))
    obtain ⟨b, eb⟩ := nat_of (Int.emod_nonneg (t / 5) (by decide : (2 : Int) ≠ 0))
    have hb2 : t / 5 % 2 < 2 := Int.emod_lt_of_pos _ (by decide)
    refine ⟨_, rfl, .inl ⟨_, rfl, _, _, rfl, rfl, (by show (0 : Int) < 5; decide), _, rfl, _, rfl, (by rw [eab]; show 4 ≤ sizeLine; omega), ?_⟩⟩
    refine ⟨_, rfl, _, _, rfl, rfl, ⟨by decide, by decide⟩, .inl ⟨_, rfl, _, _, rfl, rfl, (by show (0 : Int) < 2; decide), _, _, rfl, rfl, .inl ⟨by decide, by decide⟩, _, rfl, _, rfl, (by rw [e9292]; show 2 ≤ sizeLine; omega), ?_⟩⟩
    dsimp only
    rw [ej, eb, show (2 : Int) * (b : Int) = ((2 * b : Nat) : Int) by omega, eab, e9292, cut_to, cut_to]
    have hl1 : (List.take j [97, 98, 32, 99]).length ≤ 4 := by
      rw [List.length_take]
      exact Nat.min_le_right _ _
    have hl2 : (List.take (2 * b) [92, 92]).length ≤ 2 := by
      rw [List.length_take]
      exact Nat.min_le_right _ _
    have hm : Inner (List.take j [97, 98, 32, 99] ++ List.take (2 * b) [92, 92]) := inner_app (inner_take j) (inner_slash b (by omega))
    refine ⟨_, _, rfl, rfl, (by rw [S_len, S_len]; omega), ?_⟩
    rw [S_cat]
    have hml : (List.take j [97, 98, 32, 99] ++ List.take (2 * b) [92, 92]).length ≤ 6 := by
      rw [List.length_append]
      omega
    generalize List.take j [97, 98, 32, 99] ++ List.take (2 * b) [92, 92] = m at hm hml
    have hms : (S m).length ≤ sizeLine := by
      rw [S_len]
      omega
    rw [e34, e92, eq32, e10, etab, ech]
    -- if row % 8 == 3:
    refine ⟨_, rfl, _, _, rfl, rfl, (by show (0 : Int) < 8; decide), rfl, _, rfl, ite2 (fun e3 => ?_) (fun e3 => ?_)⟩
    · have h0 : 0 ≤ t / 10 % 8 := Int.emod_nonneg _ (by decide)
      have h1 : t / 10 % 8 < 8 := Int.emod_lt_of_pos _ (by decide)
      obtain ⟨i, ei⟩ := nat_of h0
      have hi : i < 8 := by omega
      obtain ⟨d, hd, he⟩ : ∃ d, ([97, 113, 116, 78, 48, 32, 39, 10] : List Nat)[i]? = some d ∧ esc d = none := by
        have h : i = 0 ∨ i = 1 ∨ i = 2 ∨ i = 3 ∨ i = 4 ∨ i = 5 ∨ i = 6 ∨ i = 7 := by omega
        rcases h with rfl | rfl | rfl | rfl | rfl | rfl | rfl | rfl <;> exact ⟨_, rfl, by decide⟩
      refine ⟨_, rfl, _, _, rfl, rfl, (by rw [S_len, S_len]; show 1 + _ ≤ sizeLine; omega), ?_⟩
      rw [S_cat]
      refine ⟨_, _, rfl, rfl, (by rw [S_len, S_len, List.length_append]; show 1 + _ + 1 ≤ sizeLine; omega), ?_⟩
      rw [S_cat]
      refine ⟨_, rfl, _, rfl, _, _, rfl, rfl, ⟨by decide, by decide⟩, .inl ⟨_, rfl, _, _, rfl, rfl, (by show (0 : Int) < 8; decide), _, _, d, rfl, rfl, (by show 8 ≤ sizeLine; omega), at_ofN (j := i) ei hd, _, _, rfl, rfl, (by rw [S_len, List.length_append, List.length_append]; show 1 + _ + 1 + 1 ≤ sizeLine; omega), ?_⟩⟩
      rw [S_cat]
      refine ⟨_, _, rfl, rfl, (by rw [S_len, S_len, List.length_append, List.length_append, List.length_append]; show 1 + _ + 1 + 1 + 2 ≤ sizeLine; omega), ?_⟩
      rw [S_cat]
      refine ⟨_, rfl, _, rfl, hms, _, _, rfl, rfl, (by show 3 ≤ sizeLine; decide), fun p2 n2 => ?_⟩
      have ef : [34] ++ m ++ [92] ++ [d] ++ [34, 32] = 34 :: m ++ [92, d, 34, 32] := by simp
      rw [ef]
      refine q _ p2 (34 :: m ++ [92, d, 34, 32]) (1 + m.length) notKnown (same_upd n2) n2 ?_ (fun rest _ => bad_text (why := 1) hm (1 + m.length) fun a acc => ?_) (by simp; omega) (by decide +kernel)
      · rw [upd_same, S_len]
        show _ = some (HO.lst [_, V.int ((1 + m.length : Nat) : Int), _])
        rw [show ((1 + m.length : Nat) : Int) = 1 + ((m.length : Nat) : Int) by omega]
        rfl
      · have hf : faultAt a (a + 1 + m.length) ([92, d, 34, 32] ++ rest) = some (a + 1 + m.length, 1) := by
          show (if esc d = none then some (a + 1 + m.length, 1) else none) = _
          rw [if_pos he]
        rw [scan_fault (fun z => by cases z) hf, Nat.add_assoc]
    -- if row % 8 == 4:
    refine ⟨_, rfl, _, _, rfl, rfl, (by show (0 : Int) < 8; decide), rfl, _, rfl, ite2 (fun e4 => ?_) (fun e4 => ?_)⟩
    · refine ⟨_, rfl, _, _, rfl, rfl, (by rw [S_len, S_len]; show 1 + _ ≤ sizeLine; omega), ?_⟩
      rw [S_cat]
      refine ⟨_, _, rfl, rfl, (by rw [S_len, S_len, List.length_append]; show 1 + _ + 1 ≤ sizeLine; omega), ?_⟩
      rw [S_cat]
      refine ⟨(by show 3 ≤ sizeLine; decide), fun p2 n2 => ?_⟩
      exact q _ p2 (34 :: m ++ [10]) 0 notEnds (same_upd n2) n2 upd_same (fun rest _ => bad_text (why := 0) hm 0 fun a acc => scan_fault (fun z => by cases z) rfl) (by simp; omega) (by decide +kernel)
    -- if row % 8 == 5:
    refine ⟨_, rfl, _, _, rfl, rfl, (by show (0 : Int) < 8; decide), rfl, _, rfl, ite2 (fun e5 => ?_) (fun e5 => ?_)⟩
    · have h5 : r % 8 = 5 := V.int.inj (of_decide_eq_true e5)
      refine ⟨_, rfl, _, _, rfl, rfl, (by rw [S_len, S_len]; show 1 + _ ≤ sizeLine; omega), ?_⟩
      rw [S_cat]
      refine ⟨(by show 3 ≤ sizeLine; decide), fun p2 n2 => ?_⟩
      refine q _ p2 (34 :: m) 0 notEnds (same_upd n2) n2 upd_same (fun rest hr => ?_) (by simp; omega) (by decide +kernel)
      rw [hr (.inl h5)]
      have := bad_text (why := 0) (f := []) (rest := []) hm 0 fun a acc => rfl
      rw [List.append_nil] at this
      exact this
    -- if row % 8 == 6:
    refine ⟨_, rfl, _, _, rfl, rfl, (by show (0 : Int) < 8; decide), rfl, _, rfl, ite2 (fun e6 => ?_) (fun e6 => ?_)⟩
    · refine ⟨_, rfl, _, _, rfl, rfl, (by rw [S_len, S_len]; show 1 + _ ≤ sizeLine; omega), ?_⟩
      rw [S_cat]
      refine ⟨_, _, rfl, rfl, (by rw [S_len, S_len, List.length_append]; show 1 + _ + 3 ≤ sizeLine; omega), ?_⟩
      rw [S_cat]
      refine ⟨_, rfl, _, rfl, hms, _, _, rfl, rfl, (by show 3 ≤ sizeLine; decide), fun p2 n2 => ?_⟩
      refine q _ p2 (34 :: m ++ [9, 34, 32]) (1 + m.length) notAllowed (same_upd n2) n2 ?_ (fun rest _ => bad_text (why := 2) hm (1 + m.length) fun a acc => ?_) (by simp; omega) (by decide +kernel)
      · rw [upd_same, S_len]
        show _ = some (HO.lst [_, V.int ((1 + m.length : Nat) : Int), _])
        rw [show ((1 + m.length : Nat) : Int) = 1 + ((m.length : Nat) : Int) by omega]
        rfl
      · rw [scan_fault (o := a + 1 + m.length) (why := 2) (fun z => by cases z) rfl, Nat.add_assoc]
    · have h7 : r % 8 = 7 := by
        have h0 : 0 ≤ r % 8 := Int.emod_nonneg _ (by decide)
        have h8 : r % 8 < 8 := Int.emod_lt_of_pos _ (by decide)
        have f1 : ¬ r % 8 < 2 := fun z => e (decide_eq_true z)
        have f2 : ¬ r % 8 = 2 := fun z => e2 (decide_eq_true (show V.int (r % 8) = V.int 2 by rw [z]))
        have f3 : ¬ r % 8 = 3 := fun z => e3 (decide_eq_true (show V.int (r % 8) = V.int 3 by rw [z]))
        have f4 : ¬ r % 8 = 4 := fun z => e4 (decide_eq_true (show V.int (r % 8) = V.int 4 by rw [z]))
        have f5 : ¬ r % 8 = 5 := fun z => e5 (decide_eq_true (show V.int (r % 8) = V.int 5 by rw [z]))
        have f6 : ¬ r % 8 = 6 := fun z => e6 (decide_eq_true (show V.int (r % 8) = V.int 6 by rw [z]))
        omega
      refine ⟨_, rfl, _, _, rfl, rfl, (by rw [S_len, S_len]; show 1 + _ ≤ sizeLine; omega), ?_⟩
      rw [S_cat]
      refine ⟨_, _, rfl, rfl, (by rw [S_len, S_len, List.length_append]; show 1 + _ + 1 ≤ sizeLine; omega), ?_⟩
      rw [S_cat]
      refine ⟨(by show 3 ≤ sizeLine; decide), fun p2 n2 => ?_⟩
      refine q _ p2 (34 :: m ++ [92]) 0 notEnds (same_upd n2) n2 upd_same (fun rest hr => ?_) (by simp; omega) (by decide +kernel)
      rw [hr (.inr h7)]
      exact bad_text (why := 0) hm 0 fun a acc => scan_fault (fun z => by cases z) rfl
end
end My
/-! ### _law_gap, law -/
namespace My
open PySem L2 SX
open C8 (pss_cut tCut cutS_slice pe_gc)
section
variable {P : Program} {w : World} {K : PySem.W.Frag} {mg : Str → Option Value} {base : Heap} {wA lA eA : Addr}
local macro_rules | `(tactic| walk_at "sz") => `(tactic| first | assumption | (simp only [S_len, List.length_append, List.length_cons, List.length_nil, List.length_take, List.length_drop] <;> omega))
variable {aR aW aN aT aS aP aG : Addr} {dR dW dN dT dS dP dG : FuncData}
abbrev sLawGap : Stmt := top 27
theorem scLawGap : FnScope ["row", "before", "after", "gaps"] ["row", "before", "after"] (defScope sLawGap) := ⟨rfl, rfl, rfl, by decide +kernel, rfl, by decide +kernel, by decide +kernel⟩
def spLawGap : Sp := fun vs H Q _ => ∃ (r : Int) (b p : List Nat), vs = [.int r, .str (S b), .str (S p)] ∧ ∀ H' g, Same H H' → GapOk b p g → Q (.str (S g)) H'
theorem okLawGap (D : LawD K mg aR aW aN aT aS aP aG dR dW dN dT dS dP dG) (B : Bl mg) : FnOk P w K mg base CX0 1 aG dG ["row", "before", "after"] spLawGap := by
  refine D.fG.ok scLawGap (fun vs H Q E h => ?_) (fun cdv A outer s H vs Q E hr h => ?_)
  · obtain ⟨r, b, p, rfl, _⟩ := h
    rfl
  · obtain ⟨r, b, p, rfl, q⟩ := h
    have hz := sizeLine_eq
    refine ⟨_, pss_cons (ps_set (i := 3) scLawGap.nd rfl (.inl rfl) (pe_lst (pa_cons pe_str (pa_cons pe_str (pa_cons pe_str (pa_cons pe_str (pa_cons pe_str pa_nil)))))))
      (pss_cut (ps_if (PW.pt (pw_or (pt_cmpR op_in_seq (pv 1) (pe_tup (pa_cons pe_str (pa_cons pe_str (pa_cons pe_str (pa_cons pe_str (pa_cons pe_str (pa_cons pe_str (pa_cons pe_str (pa_cons pe_str (pa_cons pe_str pa_nil)))))))))) (by rfl)) (pw_or1 (pt_cmpR op_in_seq (pv 2) (pe_tup (pa_cons pe_str (pa_cons pe_str (pa_cons pe_str (pa_cons pe_str (pa_cons pe_str (pa_cons pe_str (pa_cons pe_str (pa_cons pe_str pa_nil))))))))) (by rfl)))))
        (pss_one (ps_set (i := 3) scLawGap.nd rfl (.inl rfl) (pe_lst (pa_cons pe_str (pa_cons pe_str (pa_cons pe_str (pa_cons pe_str (pa_cons pe_str pa_nil))))))))
        pss_nil)
      (pss_cons (ps_if (pt_cmpR op_eq (pv 1) pe_str (nomark _))
        (pss_one (ps_ret (pe_op op_add_str pe_str (pe_ix ix_list (pv 3) (pe_op op_mod (pe_callTy call_int1 (by rfl) B.int (by decide +kernel) (pa_cons (pv 0) pa_nil)) pe_int) (fun _ _ => rfl)))))
        pss_nil)
      (pss_one (ps_ret (pe_ix ix_list (pv 3) (pe_op op_mod (pe_callTy call_int1 (by rfl) B.int (by decide +kernel) (pa_cons (pv 0) pa_nil)) pe_int) (fun _ _ => rfl)))))), ?_⟩
    have e1 : ([V.str " ", V.str "\n", V.str "  \n ", V.str " // a \"b\n", V.str "// {\n\n"] : List V) = gaps1.map fun l => V.str (S l) := by decide +kernel
    have e2 : ([V.str "", V.str "", V.str " ", V.str "\n", V.str "//\n"] : List V) = gaps2.map fun l => V.str (S l) := by decide +kernel
    have e9 : ([V.str "(", V.str ")", V.str "[", V.str "]", V.str ",", V.str ";", V.str "{", V.str "}", V.str ":"] : List V) = br9.map fun l => V.str (S l) := by decide +kernel
    have e8 : ([V.str "(", V.str ")", V.str "[", V.str "]", V.str ",", V.str ";", V.str "{", V.str "}"] : List V) = br8.map fun l => V.str (S l) := by decide +kernel
    have e47 : (("/" : Str)) = S [47] := by decide +kernel
    have e32 : ((" " : Str)) = S [32] := by decide +kernel
    refine ⟨(by show 5 ≤ sizeLine; decide), fun o1 n1 => ?_⟩
    -- if before in (..) or after in (..): gaps = ..
    refine ⟨fun σ H3 => ∃ (o : Addr) (gs : List (List Nat)), σ = [some (.int r), some (.str (S b)), some (.str (S p)), some (.ref o)] ∧ Same H H3 ∧ H3 o = some (.lst (gs.map fun l => V.str (S l))) ∧ gs.length = 5 ∧ ((∀ g ∈ gs, g ∈ gaps1) ∨ ((∀ g ∈ gs, g ∈ gaps2) ∧ (b ∈ br9 ∨ p ∈ br8))), ?_, ?_⟩
    · refine ⟨_, rfl, (by show 9 ≤ sizeLine; decide), fun o2 n2 => ?_⟩
      refine ⟨o2, _, rfl, .inr (SqT.of upd_same), rfl, rfl, _, rfl, ?_⟩
      show if (inV (.str (S b)) [V.str "(", V.str ")", V.str "[", V.str "]", V.str ",", V.str ";", V.str "{", V.str "}", V.str ":"]) = true then _ else _
      have s1 := same_upd (o := .lst [V.str " ", V.str "\n", V.str "  \n ", V.str " // a \"b\n", V.str "// {\n\n"]) n1
      have s2 := same_upd (o := .tup [V.str "(", V.str ")", V.str "[", V.str "]", V.str ",", V.str ";", V.str "{", V.str "}", V.str ":"]) n2
      have o12 : o1 ≠ o2 := ne_of_none upd_same n2
      rw [e9, inV_codes]
      refine ite2 (fun h => iteT ?_) (fun h => ?_)
      · refine ⟨(by show 5 ≤ sizeLine; decide), fun o3 n3 => ⟨o3, gaps2, rfl, ?_, ?_, rfl, .inr ⟨fun g hg => hg, .inl (of_decide_eq_true h)⟩⟩⟩
        · rw [← e9] at n3 ⊢
          exact (s1.trans s2).trans (same_upd n3)
        · rw [upd_same, e2]
      · refine ⟨_, rfl, (by show 8 ≤ sizeLine; decide), fun o3 n3 => ?_⟩
        refine ⟨o3, _, rfl, .inr (SqT.of upd_same), rfl, rfl, _, rfl, ?_⟩
        rw [← e9] at n3 ⊢
        show if (inV (.str (S p)) [V.str "(", V.str ")", V.str "[", V.str "]", V.str ",", V.str ";", V.str "{", V.str "}"]) = true then _ else _
        have s3 := same_upd (o := .tup [V.str "(", V.str ")", V.str "[", V.str "]", V.str ",", V.str ";", V.str "{", V.str "}"]) n3
        rw [e8, inV_codes, ← e8]
        refine ite2 (fun h2 => ?_) (fun h2 => ?_)
        · refine ⟨(by show 5 ≤ sizeLine; decide), fun o4 n4 => ⟨o4, gaps2, rfl, ((s1.trans s2).trans s3).trans (same_upd n4), ?_, rfl, .inr ⟨fun g hg => hg, .inr (of_decide_eq_true h2)⟩⟩⟩
          rw [upd_same, e2]
        · refine ⟨o1, gaps1, rfl, (s1.trans s2).trans s3, ?_, rfl, .inl fun g hg => hg⟩
          rw [upd_ne (ne_of_none (by rw [upd_ne o12]; exact upd_same) n3), upd_ne o12, upd_same, e1]
    · rintro σ H3 ⟨o, gs, rfl, s3, eo, hl, hgs⟩
      obtain ⟨g, hg, _, ea⟩ := at_map gs (k := r % 5) (Int.emod_nonneg _ (by decide)) (by rw [hl]; exact Int.emod_lt_of_pos _ (by decide))
      -- if before == '/':
      refine ⟨_, rfl, rfl, _, rfl, ?_⟩
      rw [e47, e32]
      refine ite2 (fun h => ?_) (fun h => ?_)
      · have hb : g ∈ gaps1 ∨ g ∈ gaps2 := by
          rcases hgs with h | h
          · exact .inl (h g hg)
          · exact .inr (h.1 g hg)
        have := len_of hb
        refine ⟨_, rfl, _, rfl, .inl ⟨_, rfl, _, _, rfl, rfl, (by show (0 : Int) < 5; decide), o, _, _, _, rfl, rfl, SqL.of eo, ea, _, _, rfl, rfl, (by rw [S_len, S_len]; show 1 + _ ≤ sizeLine; omega), ?_⟩⟩
        rw [S_cat]
        exact q _ (32 :: g) s3 (gap_slash hb)
      · have hb : ¬ b = [47] := fun z => h (decide_eq_true (by rw [z]))
        refine ⟨_, rfl, _, rfl, .inl ⟨_, rfl, _, _, rfl, rfl, (by show (0 : Int) < 5; decide), o, _, _, _, rfl, rfl, SqL.of eo, ea, ?_⟩⟩
        refine q _ g s3 (gap_plain hb ?_)
        rcases hgs with h | h
        · exact .inl (h g hg)
        · exact .inr ⟨h.1 g hg, h.2⟩
/-! ### the law -/
def vD : V → PyData
  | .int i => .int i
  | .str x => .str x
  | _ => .none
def tkD (t : Tk) : PyData := .tuple [.str t.1, .int (t.2.1 : Int), vD t.2.2]
/-- a token whose value is data -/
structure Plain (t : Tk) : Prop where
  val : t.2.2 = .non ∨ (∃ i, t.2.2 = .int i) ∨ ∃ x, t.2.2 = .str x
  ok : ∀ x, t.2.2 = .str x → PyData.strOk x = true
  kok : PyData.strOk t.1 = true
theorem Plain.dp {t : Tk} (h : Plain t) {H : Hp} {p : Addr} (e : H p = some (.tup (tkV t))) : Dp K H (.ref p) (tkD t) := by
  refine .tup (SqT.of e) (.cons (.str _) (.cons (.int _) (.cons ?_ .nil)))
  rcases h.val with e | ⟨i, e⟩ | ⟨x, e⟩ <;> rw [e]
  · exact .non
  · exact .int _
  · exact .str _
theorem Plain.lay {t : Tk} (h : Plain t) : (tkD t).canLay0 = true := by
  have hv : (vD t.2.2).canLay0 = true := by
    rcases h.val with e | ⟨i, e⟩ | ⟨x, e⟩
    · rw [e]
      rfl
    · rw [e]
      rfl
    · have := h.ok x e
      rw [e]
      exact this
  show (PyData.strOk t.1 && (true && ((vD t.2.2).canLay0 && true))) = true
  rw [h.kok, hv]
  rfl
theorem Plain.deep {t : Tk} : (tkD t).depth ≤ 1 := by
  have hv : (vD t.2.2).depth = 0 := by
    cases t.2.2 <;> rfl
  show max 0 (max 0 (max ((vD t.2.2).depth) 0)) + 1 ≤ 1
  rw [hv]
  decide
theorem lay_all : ∀ {ts : List Tk}, (∀ t ∈ ts, Plain t) → PyData.canLayAll0 (ts.map tkD) = true
  | [], _ => rfl
  | t :: ts, h => by
    show ((tkD t).canLay0 && PyData.canLayAll0 (ts.map tkD)) = true
    rw [(h t (List.mem_cons_self ..)).lay, lay_all fun x hx => h x (List.mem_cons_of_mem _ hx)]
    rfl
theorem deep_all : ∀ (ts : List Tk), PyData.depthAll (ts.map tkD) ≤ 1
  | [] => Nat.zero_le _
  | t :: ts => by
    show max ((tkD t).depth) (PyData.depthAll (ts.map tkD)) ≤ 1
    exact Nat.max_le.mpr ⟨Plain.deep, deep_all ts⟩
theorem shaped_all {ts : List Tk} (h : ∀ t ∈ ts, Plain t) : SeqAt.shaped (.list (ts.map tkD)) = true := by
  unfold SeqAt.shaped
  rw [Bool.and_eq_true]
  refine ⟨lay_all h, decide_eq_true ?_⟩
  show PyData.depthAll (ts.map tkD) + 1 ≤ 64
  have := deep_all ts
  omega
theorem dp_all {H : Hp} : ∀ {qs : List Addr} {ts : List Tk}, Toks H qs ts → (∀ t ∈ ts, Plain t) → DpAll K H (qs.map V.ref) (ts.map tkD)
  | _, _, .nil, _ => .nil
  | _, _, .cons e t, h => .cons ((h _ (List.mem_cons_self ..)).dp e) (dp_all t fun x hx => h x (List.mem_cons_of_mem _ hx))
theorem Toks.get {H : Hp} : ∀ {qs : List Addr} {ts : List Tk} {i : Nat} {q : Addr}, Toks H qs ts → qs[i]? = some q → ∃ t, t ∈ ts ∧ H q = some (.tup (tkV t))
  | _, _, _, _, .nil, h => by cases h
  | _, _, 0, _, .cons e t, h => by
    cases h
    exact ⟨_, List.mem_cons_self .., e⟩
  | _, _, i + 1, q, .cons e t, h => by
    obtain ⟨x, hx, e2⟩ := Toks.get (i := i) t h
    exact ⟨x, List.mem_cons_of_mem _ hx, e2⟩
variable {aTok aGap aCom aAt aRun aName aNum aText aFlt aChr : Addr} {dTok dGap dCom dAt dRun dName dNum dText dFlt dChr : FuncData}
abbrev sLaw : Stmt := top 29
theorem scLaw : FnScope ["script", "rows", "text", "due", "before", "k", "piece", "wrong"] ["script"] (defScope sLaw) := ⟨rfl, rfl, rfl, by decide +kernel, rfl, by decide +kernel, by decide +kernel⟩
def spLaw (K : PySem.W.Frag) : Sp := fun vs H Q _ => ∃ (a : Addr) (ns : List Int), vs = [.ref a] ∧ SqL K H a (ns.map V.int) ∧ ns.length ≤ 63 ∧ ∀ H', Q (.bl true) H'
theorem Toks.change {Hx Hy : Hp} {d : Addr} (h1 : ∀ c x, c ≠ d → Hx c = some x → Hy c = some x) (h3 : ∃ l, Hx d = some (.lst l)) : ∀ {qs : List Addr} {ts : List Tk}, Toks Hx qs ts → Toks Hy qs ts := by
  intro qs ts h
  induction h with
  | nil => exact .nil
  | cons e t ih =>
    refine .cons (h1 _ _ (fun z => ?_) e) ih
    obtain ⟨l, hl⟩ := h3
    rw [z, hl] at e
    cases e
theorem okLaw {f fX : Addr} {fd dX : FuncData} (F : Fun K "law" "law" sLaw f fd) (X : Lex K mg aTok aGap aCom aAt aRun aName aNum aText aFlt aChr dTok dGap dCom dAt dRun dName dNum dText dFlt dChr) (D : LawD K mg aR aW aN aT aS aP aG dR dW dN dT dS dP dG) (B : Bl mg) (T : Tx K w mg wA lA eA)
    (FX : Fun K "_law_wrong" "_law_wrong" sLawWrong fX dX) (bX : Binds K dX ["row"] []) (gX : mg "_law_wrong" = some (.ref fX)) :
    FnOk P w K mg base CX0 6 f fd ["script"] (spLaw K) := by
  have G_law_rows : FnOk P w K mg base CX0 1 aR dR ["script", "count"] (spRows K) := ok_rows D.fR B
  have G_law_piece : FnOk P w K mg base CX0 2 aP dP ["row"] spLawPiece := okLawPiece D B
  have G_law_gap : FnOk P w K mg base CX0 1 aG dG ["row", "before", "after"] spLawGap := okLawGap D B
  have G_law_wrong : FnOk P w K mg base CX0 1 fX dX ["row"] spLawWrong := okLawWrong FX B
  have Gtokens_of : FnOk P w K mg base CX0 5 aTok dTok ["text"] spTokensOf := okTokensOf X B T
  refine F.ok scLaw (fun vs H Q E h => ?_) (fun cdv A outer s H vs Q E hr h => ?_)
  · obtain ⟨a, ns, rfl, _⟩ := h
    rfl
  · obtain ⟨a, ns, rfl, hS, hlen, q⟩ := h
    have hz := sizeLine_eq
    refine ⟨_, pss_cons (ps_set (i := 1) scLaw.nd rfl (.inl rfl) (pe_call G_law_rows (hr.mono (by decide)) (by rfl) D.gR D.fR.kp D.bR .nil pass0 (pa_cons (pv 0) (pa_cons pe_int pa_nil))))
      (pss_cons (ps_set (i := 2) scLaw.nd rfl (.inl rfl) pe_str)
      (pss_cons (ps_set (i := 3) scLaw.nd rfl (.inl rfl) (pe_lst pa_nil))
      (pss_cons (ps_set (i := 4) scLaw.nd rfl (.inl rfl) pe_str)
      (pss_cons (ps_for PassesOwn.never rfl (pi_range1 (by rfl) B.range (pa_cons (pe_op op_mod (pe_callTy call_int1 (by rfl) B.int (by decide +kernel) (pa_cons (pe_ix ix_list (pv 1) pe_int (fun _ _ => rfl)) pa_nil)) pe_int) pa_nil)) (pg_name (i := 5) scLaw.nd rfl (.inl rfl))
        (pss_cons (ps_set (i := 6) scLaw.nd rfl (.inl rfl) (pe_call G_law_piece (hr.mono (by decide)) (by rfl) D.gP D.fP.kp D.bP .nil pass0 (pa_cons (pe_ix ix_list (pv 1) (pe_op op_add (pv 5) pe_int) (fun _ _ => rfl)) pa_nil)))
        (pss_cons (ps_set (i := 2) scLaw.nd rfl (.inl rfl) (pe_op op_add_str (pv 2) (pe_call G_law_gap (hr.mono (by decide)) (by rfl) D.gG D.fG.kp D.bG .nil pass0 (pa_cons (pe_ix ix_list (pv 1) (pe_op op_add (pv 5) pe_int) (fun _ _ => rfl)) (pa_cons (pv 4) (pa_cons (pe_ix ix_list (pv 6) pe_int (fun _ _ => rfl)) pa_nil))))))
        (pss_cons (ps_expr (pe_bm PySem.F.plainAttrs_list PySem.F.slot_list_append PySem.F.type_list_append mt_append (pv 3) (pa_cons (pe_tup (pa_cons (pe_ix ix_list (pv 6) pe_int (fun _ _ => rfl)) (pa_cons (pe_callB call_len_str (by rfl) B.len PySem.boot_len (pa_cons (pv 2) pa_nil)) (pa_cons (pe_ix ix_list (pv 6) pe_int (fun _ _ => rfl)) pa_nil)))) pa_nil)))
        (pss_cons (ps_set (i := 2) scLaw.nd rfl (.inl rfl) (pe_op op_add_str (pv 2) (pe_ix ix_list (pv 6) pe_int (fun _ _ => rfl))))
        (pss_one (ps_set (i := 4) scLaw.nd rfl (.inl rfl) (pe_ix ix_list (pv 6) pe_int (fun _ _ => rfl)))))))))
      (pss_cons (ps_set (i := 7) scLaw.nd rfl (.inl rfl) (pe_call G_law_wrong (hr.mono (by decide)) (by rfl) gX FX.kp bX .nil pass0 (pa_cons (pe_ix ix_list (pv 1) pe_int (fun _ _ => rfl)) pa_nil)))
      (pss_cons (ps_set (i := 2) scLaw.nd rfl (.inl rfl) (pe_op op_add_str (pv 2) pe_str))
      (pss_cons (ps_expr (pe_bm PySem.F.plainAttrs_list PySem.F.slot_list_append PySem.F.type_list_append mt_append (pv 3) (pa_cons (pe_tup (pa_cons pe_str (pa_cons (pe_op op_add (pe_callB call_len_str (by rfl) B.len PySem.boot_len (pa_cons (pv 2) pa_nil)) (pe_ix ix_list (pv 7) pe_int (fun _ _ => rfl))) (pa_cons (pe_ix ix_list (pv 7) pe_int (fun _ _ => rfl)) pa_nil)))) pa_nil)))
      (pss_cons (ps_set (i := 2) scLaw.nd rfl (.inl rfl) (pe_op op_add_str (pv 2) (pe_ix ix_list (pv 7) pe_int (fun _ _ => rfl))))
      (pss_cut (ps_if (pt_cmpR op_notIn_seq (pe_op op_mod (pe_ix ix_list (pv 1) pe_int (fun _ _ => rfl)) pe_int) (pe_tup (pa_cons pe_int (pa_cons pe_int pa_nil))) (by rfl))
        (pss_one (ps_for PassesOwn.never rfl (pi_range1 (by rfl) B.range (pa_cons (pe_op op_mod (pe_callTy call_int1 (by rfl) B.int (by decide +kernel) (pa_cons (pe_ix ix_list (pv 1) pe_int (fun _ _ => rfl)) pa_nil)) pe_int) pa_nil)) (pg_name (i := 5) scLaw.nd rfl (.inl rfl))
          (pss_one (ps_set (i := 2) scLaw.nd rfl (.inl rfl) (pe_op op_add_str (pe_op op_add_str (pv 2) (pe_ix ix_list (pe_call G_law_piece (hr.mono (by decide)) (by rfl) D.gP D.fP.kp D.bP .nil pass0 (pa_cons (pe_ix ix_list (pv 1) (pe_op op_add pe_int (pv 5)) (fun _ _ => rfl)) pa_nil)) pe_int (fun _ _ => rfl))) pe_str)))))
        pss_nil)
      (pss_one (ps_ret (pe_cmpR (op_eqD hr.units) (pe_call Gtokens_of (hr.mono (by decide)) (by rfl) X.gTok X.fTok.kp X.bTok .nil pass0 (pa_cons (pv 2) pa_nil)) (pv 3) (nomark _))))))))))))), ?_⟩
    have e0 : (("" : Str)) = S [] := by decide +kernel
    have e40 : (("(" : Str)) = S [40] := by decide +kernel
    have e32 : ((" " : Str)) = S [32] := by decide +kernel
    have e10 : (("\n" : Str)) = S [10] := by decide +kernel
    -- rows
    refine ⟨_, rfl, a, ns, 30, rfl, hS, hlen, by decide, fun H1 o rs s1 no eo el => ?_⟩
    have row : ∀ j : Nat, j < 30 → ∀ z : Int, z = (j : Int) → ∃ r, atI (rs.map V.int) z = some (V.int r) := fun j hj z ez => ⟨rs[j], at_of ez (by rw [List.getElem?_map, List.getElem?_eq_getElem (by omega)]; rfl)⟩
    obtain ⟨r0, hr0⟩ := row 0 (by decide) 0 rfl
    rw [e0, e40]
    -- due = []
    refine ⟨(by show 0 ≤ sizeLine; decide), fun d nd => ?_⟩
    have nod : o ≠ d := ne_of_none eo nd
    have s2 : Same H1 (upd H1 d (.lst [])) := same_upd nd
    have f0 : 0 ≤ r0 % 9 := Int.emod_nonneg _ (by decide)
    have f1 : r0 % 9 < 9 := Int.emod_lt_of_pos _ (by decide)
    refine ⟨_, rfl, o, _, _, _, rfl, rfl, SqL.of (s2 _ _ eo), hr0, .inl ⟨_, rfl, _, _, rfl, rfl, (by show (0 : Int) < 9; decide), _, rfl, ?_, ?_, ?_⟩⟩
    · show -(2 ^ 62) ≤ r0 % 9
      omega
    · show r0 % 9 < 2 ^ 62
      omega
    refine for_range (n := (r0 % 9).toNat) (fun i σ H3 => ∃ (t b : List Nat) (qs : List Addr) (due : List Tk) (y5 y6 : Option V), σ = [some (.ref a), some (.ref o), some (.str (S t)), some (.ref d), some (.str (S b)), y5, y6, none] ∧
        Same H H3 ∧ H3 o = some (.lst (rs.map V.int)) ∧ H3 d = some (.lst (qs.map V.ref)) ∧ Toks H3 qs due ∧ Grown t due b ∧ (∀ t ∈ due, Plain t) ∧ due.length = i ∧ t.length ≤ 420 * i)
      ⟨[], [40], [], [], none, none, rfl, s1.trans s2, s2 _ _ eo, upd_same, .nil, Grown.start _, fun t h => (by cases h), rfl, Nat.le_refl _⟩ ?_ ?_
    · rintro i σ H3 hi ⟨t, b, qs, due, y5, y6, rfl, s3, eo3, ed3, tk, gr, hpl, hdl, htl⟩
      have hi' : i < 9 := by omega
      obtain ⟨r1, h1⟩ := row (i + 1) (by omega) (0 + (i : Int) + 1) (by omega)
      obtain ⟨r2, h2⟩ := row (i + 10) (by omega) (0 + (i : Int) + 10) (by omega)
      -- piece = _law_piece(rows[k + 1])
      refine ⟨_, rfl, _, rfl, _, _, rfl, rfl, o, _, _, _, rfl, rfl, SqL.of eo3, h1, r1, rfl, fun H4 op p k v s4 n4 e4 pok vn kok => ?_⟩
      -- text = text + _law_gap(rows[k + 21], before, piece[0])
      refine ⟨_, rfl, _, rfl, _, rfl, _, _, rfl, rfl, o, _, _, _, rfl, rfl, SqL.of (s4 _ _ eo3), h2, _, rfl, _, rfl, op, _, 0, _, rfl, rfl, SqL.of e4, at_ofN (j := 0) rfl rfl, r2, b, p, rfl, fun H5 g s5 gok => ?_⟩
      have hgl := gok.len
      have hpl' := pok.len
      refine ⟨_, _, rfl, rfl, (by rw [S_len, S_len]; omega), ?_⟩
      rw [S_cat]
      have ed5 : H5 d = some (.lst (qs.map V.ref)) := s5 _ _ (s4 _ _ ed3)
      have e5 := s5 _ _ e4
      have hqd : qs.length = due.length := Paired.length tk
      -- due.append((piece[1], len(text), piece[2]))
      refine ⟨_, rfl, .inl ⟨rfl, _, SqL.of ed5⟩, _, rfl, op, _, 1, _, rfl, rfl, SqL.of e5, at_ofN (j := 1) rfl rfl, _, rfl, _, rfl, (by rw [S_len, List.length_append]; omega), _, rfl, op, _, 2, _, rfl, rfl, SqL.of e5, at_ofN (j := 2) rfl rfl, (by show 3 ≤ sizeLine; decide), fun p3 n3 => ?_⟩
      have edT : (upd H5 p3 (.tup [.str k, .int (((S (t ++ g)).length : Nat) : Int), v])) d = some (.lst (qs.map V.ref)) := by
        rw [upd_ne (ne_of_none ed5 n3)]
        exact ed5
      refine ⟨d, _, _, rfl, rfl, edT, (by rw [List.length_map, hqd]; omega), ?_⟩
      have n3d : p3 ≠ d := fun z => by
        rw [z, ed5] at n3
        cases n3
      have opd : op ≠ d := fun z => by
        rw [z, ed3] at n4
        cases n4
      have op3 : op ≠ p3 := ne_of_none e5 n3
      have od : o ≠ d := nod
      have eoT : (upd (upd H5 p3 (.tup [.str k, .int (((S (t ++ g)).length : Nat) : Int), v])) d (.lst (qs.map V.ref ++ [.ref p3]))) op = some (.lst [.str (S p), .str k, v]) := by
        rw [upd_ne opd, upd_ne op3]
        exact e5
      -- text = text + piece[0]
      refine ⟨_, rfl, _, rfl, op, _, 0, _, rfl, rfl, SqL.of eoT, at_ofN (j := 0) rfl rfl, _, _, rfl, rfl, (by rw [S_len, S_len, List.length_append]; omega), ?_⟩
      rw [S_cat]
      -- before = piece[0]
      refine ⟨_, rfl, op, _, 0, _, rfl, rfl, SqL.of eoT, at_ofN (j := 0) rfl rfl, ?_⟩
      have sT : Same H5 (upd H5 p3 (.tup [.str k, .int (((S (t ++ g)).length : Nat) : Int), v])) := same_upd n3
      refine ⟨t ++ g ++ p, p, qs ++ [p3], due ++ [(k, (t ++ g).length, v)], _, _, rfl, ?_, ?_, ?_, ?_, gr.step gok pok, ?_, ?_, ?_⟩
      · intro c x hx
        have hcd : c ≠ d := ne_of_none (s1 _ _ hx) nd
        rw [upd_ne hcd]
        exact sT _ _ (s5 _ _ (s4 _ _ (s3 _ _ hx)))
      · rw [upd_ne od]
        exact sT _ _ (s5 _ _ (s4 _ _ eo3))
      · rw [upd_same, List.map_append]
        rfl
      · refine Paired.snoc ?_ ?_
        · have hq : ∀ {qs : List Addr} {ts : List Tk} (Hx Hy : Hp), (∀ c x, c ≠ d → Hx c = some x → Hy c = some x) → (∀ l, Hx d = some (.lst l) → True) → (∃ l, Hx d = some (.lst l)) → Toks Hx qs ts → Toks Hy qs ts := by
            intro qs ts Hx Hy h1 h2 h3 h
            induction h with
            | nil => exact .nil
            | cons e t ih =>
              refine .cons (h1 _ _ (fun z => ?_) e) ih
              obtain ⟨l, hl⟩ := h3
              rw [z, hl] at e
              cases e
          exact hq H3 _ (fun c x hc hx => by
            rw [upd_ne hc]
            exact sT _ _ (s5 _ _ (s4 _ _ hx))) (fun _ _ => trivial) ⟨_, ed3⟩ tk
        · rw [upd_ne n3d, upd_same, S_len]
          rfl
      · intro x hx
        rcases List.mem_append.mp hx with h | h
        · exact hpl x h
        · have : x = (k, (t ++ g).length, v) := by simpa using h
          subst this
          refine ⟨?_, pok.ok, kok⟩
          rcases pok.sc vn with h | h
          · exact .inr (.inl h)
          · exact .inr (.inr h)
      · rw [List.length_append, hdl]
        rfl
      · rw [List.length_append, List.length_append]
        omega
    · rintro σ H3 ⟨t, b, qs, due, y5, y6, rfl, s3, eo3, ed3, tk, gr, hpl, hdl, htl⟩
      have hqd : qs.length = due.length := Paired.length tk
      have hd21 : due.length ≤ 9 := by omega
      have ht : t.length ≤ 4000 := by omega
      obtain ⟨r20, hr20⟩ := row 20 (by decide) 20 rfl
      obtain ⟨r21, hr21⟩ := row 21 (by decide) 21 rfl
      -- wrong = _law_wrong(rows[20])
      refine ⟨_, rfl, o, _, _, _, rfl, rfl, SqL.of eo3, hr20, r20, rfl, fun H4 ow w0 off m s4 n4 e4 hbad hwl hmok => ?_⟩
      -- text = text + ' '
      rw [e32]
      refine ⟨_, rfl, _, _, rfl, rfl, (by rw [S_len, S_len]; show _ + 1 ≤ sizeLine; omega), ?_⟩
      rw [S_cat]
      have ed4 : H4 d = some (.lst (qs.map V.ref)) := s4 _ _ ed3
      -- due.append(('fault', len(text) + wrong[1], wrong[2]))
      refine ⟨_, rfl, .inl ⟨rfl, _, SqL.of ed4⟩, _, rfl, _, rfl, (by rw [S_len, List.length_append]; show _ + 1 ≤ sizeLine; omega), _, rfl, ow, _, 1, _, rfl, rfl, SqL.of e4, at_ofN (j := 1) rfl rfl, _, _, rfl, rfl, _, rfl, ow, _, 2, _, rfl, rfl, SqL.of e4, at_ofN (j := 2) rfl rfl, (by show 3 ≤ sizeLine; decide), fun p3 n3 => ?_⟩
      dsimp only
      have eoff : (((t ++ [32] : List Nat).length : Nat) : Int) + ((off : Nat) : Int) = (((t ++ [32] : List Nat).length + off : Nat) : Int) := by omega
      rw [S_len (t ++ [32]), eoff]
      have edT : (upd H4 p3 (.tup [.str "fault", .int (((t ++ [32]).length + off : Nat) : Int), .str m])) d = some (.lst (qs.map V.ref)) := by
        rw [upd_ne (ne_of_none ed4 n3)]
        exact ed4
      refine ⟨d, _, _, rfl, rfl, edT, (by rw [List.length_map, hqd]; omega), ?_⟩
      have n3d : p3 ≠ d := fun z => by
        rw [z, ed4] at n3
        cases n3
      have owd : ow ≠ d := fun z => by
        rw [z, ed3] at n4
        cases n4
      have sT : Same H4 (upd H4 p3 (.tup [.str "fault", .int (((t ++ [32]).length + off : Nat) : Int), .str m])) := same_upd n3
      have edB : (upd (upd H4 p3 (.tup [.str "fault", .int (((t ++ [32]).length + off : Nat) : Int), .str m])) d (.lst (qs.map V.ref ++ [.ref p3]))) d = some (.lst ((qs ++ [p3]).map V.ref)) := by
        rw [upd_same, List.map_append]
        rfl
      have tkB : Toks (upd (upd H4 p3 (.tup [.str "fault", .int (((t ++ [32]).length + off : Nat) : Int), .str m])) d (.lst (qs.map V.ref ++ [.ref p3]))) (qs ++ [p3]) (due ++ [(kFault, (t ++ [32]).length + off, .str m)]) := by
        refine Paired.snoc (Toks.change (d := d) (fun c x hc hx => by
          rw [upd_ne hc]
          exact sT _ _ (s4 _ _ hx)) ⟨_, ed3⟩ tk) ?_
        rw [upd_ne n3d, upd_same]
        rfl
      have plB : ∀ x ∈ due ++ [(kFault, (t ++ [32]).length + off, V.str m)], Plain x := fun x hx => by
        rcases List.mem_append.mp hx with h | h
        · exact hpl x h
        · have : x = (kFault, (t ++ [32]).length + off, .str m) := by simpa using h
          subst this
          exact ⟨.inr (.inr ⟨_, rfl⟩), fun x h => by cases h; exact hmok, (show PyData.strOk kFault = true by decide +kernel)⟩
      have eoB : (upd (upd H4 p3 (.tup [.str "fault", .int (((t ++ [32]).length + off : Nat) : Int), .str m])) d (.lst (qs.map V.ref ++ [.ref p3]))) o = some (.lst (rs.map V.int)) := by
        rw [upd_ne nod]
        exact sT _ _ (s4 _ _ eo3)
      have ewB : (upd (upd H4 p3 (.tup [.str "fault", .int (((t ++ [32]).length + off : Nat) : Int), .str m])) d (.lst (qs.map V.ref ++ [.ref p3]))) ow = some (.lst [.str (S w0), .int (off : Int), .str m]) := by
        rw [upd_ne owd]
        exact sT _ _ e4
      generalize hHB : upd (upd H4 p3 (.tup [.str "fault", .int (((t ++ [32]).length + off : Nat) : Int), .str m])) d (.lst (qs.map V.ref ++ [.ref p3])) = HB at edB tkB eoB ewB
      -- text = text + wrong[0]
      refine ⟨_, rfl, _, rfl, ow, _, 0, _, rfl, rfl, SqL.of ewB, at_ofN (j := 0) rfl rfl, _, _, rfl, rfl, (by rw [S_len, S_len, List.length_append]; show _ + 1 + _ ≤ sizeLine; omega), ?_⟩
      rw [S_cat]
      -- if rows[20] % 8 not in (5, 7): more text
      refine ⟨fun σ H5 => ∃ (tail : List Nat) (y5 : Option V), σ = [some (.ref a), some (.ref o), some (.str (S (t ++ [32] ++ w0 ++ tail))), some (.ref d), some (.str (S b)), y5, y6, some (.ref ow)] ∧ Same HB H5 ∧ tail.length ≤ 2000 ∧ (r20 % 8 = 5 ∨ r20 % 8 = 7 → tail = []), ?_, ?_⟩
      · refine ⟨_, rfl, o, _, _, _, rfl, rfl, SqL.of eoB, hr20, _, _, rfl, rfl, (by show (0 : Int) < 8; decide), (by show 2 ≤ sizeLine; decide), fun p4 n4' => ?_⟩
        have s5 : Same HB (upd HB p4 (.tup [.int 5, .int 7])) := same_upd n4'
        refine ⟨p4, _, rfl, .inr (SqT.of upd_same), rfl, rfl, _, rfl, ?_⟩
        show if (!inV (.int (r20 % 8)) [V.int 5, V.int 7]) = true then _ else _
        have ein : inV (.int (r20 % 8)) [V.int 5, V.int 7] = decide (r20 % 8 = 5 ∨ r20 % 8 = 7) := by
          unfold inV eqV
          simp only [List.any_cons, List.any_nil, Bool.or_false]
          rw [Bool.eq_iff_iff]
          simp
          constructor
          · rintro (h | h)
            · exact .inl h.symm
            · exact .inr h.symm
          · rintro (h | h)
            · exact .inl h.symm
            · exact .inr h.symm
        rw [ein]
        by_cases h57 : r20 % 8 = 5 ∨ r20 % 8 = 7
        · rw [decide_eq_true h57]
          exact iteF ⟨[], _, by rw [List.append_nil]; rfl, s5, Nat.zero_le _, fun _ => rfl⟩
        · rw [decide_eq_false h57]
          have g0 : 0 ≤ r21 % 4 := Int.emod_nonneg _ (by decide)
          have g1 : r21 % 4 < 4 := Int.emod_lt_of_pos _ (by decide)
          refine iteT ⟨_, rfl, o, _, _, _, rfl, rfl, SqL.of (s5 _ _ eoB), hr21, .inl ⟨_, rfl, _, _, rfl, rfl, (by show (0 : Int) < 4; decide), _, rfl, ?_, ?_, ?_⟩⟩
          · show -(2 ^ 62) ≤ r21 % 4
            omega
          · show r21 % 4 < 2 ^ 62
            omega
          refine for_range (n := (r21 % 4).toNat) (fun i σ H5 => ∃ (tail : List Nat) (y5 : Option V), σ = [some (.ref a), some (.ref o), some (.str (S (t ++ [32] ++ w0 ++ tail))), some (.ref d), some (.str (S b)), y5, y6, some (.ref ow)] ∧ Same HB H5 ∧ tail.length ≤ 401 * i)
            ⟨[], _, by rw [List.append_nil]; rfl, s5, Nat.zero_le _⟩ ?_ ?_
          · rintro i σ H5 hi ⟨tail, y5, rfl, s6, hl⟩
            have hi4 : i < 4 := by omega
            obtain ⟨r3, h3⟩ := row (22 + i) (by omega) (22 + (0 + (i : Int))) (by omega)
            refine ⟨_, rfl, _, rfl, _, rfl, _, _, rfl, rfl, o, _, _, _, rfl, rfl, SqL.of (s6 _ _ eoB), h3, r3, rfl, fun H6 op p k v s7 n7 e7 pok vn kok => ?_⟩
            have hpl' := pok.len
            refine ⟨op, _, 0, _, rfl, rfl, SqL.of e7, at_ofN (j := 0) rfl rfl, _, _, rfl, rfl, (by rw [S_len, S_len, List.length_append, List.length_append, List.length_append]; show _ + 1 + _ + _ + _ ≤ sizeLine; omega), ?_⟩
            rw [S_cat, e10]
            refine ⟨_, _, rfl, rfl, (by rw [S_len, S_len, List.length_append, List.length_append, List.length_append, List.length_append]; show _ + 1 + _ + _ + _ + 1 ≤ sizeLine; omega), ?_⟩
            rw [S_cat]
            refine ⟨tail ++ p ++ [10], some (.int (0 + (i : Int))), ?_, s6.trans s7, ?_⟩
            · have : t ++ [32] ++ w0 ++ tail ++ p ++ [10] = t ++ [32] ++ w0 ++ (tail ++ p ++ [10]) := by simp
              rw [this]
              rfl
            · rw [List.length_append, List.length_append]
              show _ + _ + 1 ≤ _
              omega
          · rintro σ H5 ⟨tail, y5, rfl, s6, hl⟩
            exact ⟨tail, y5, rfl, s6, by omega, fun h => absurd h h57⟩
      · rintro σ H5 ⟨tail, y5', rfl, s6, hl, htail⟩
        have hcut := gr.bad (hbad tail htail)
        -- return tokens_of(text) == due
        refine ⟨_, rfl, t ++ [32] ++ w0 ++ tail, _, rfl, (by rw [List.length_append, List.length_append, List.length_append]; show _ + 1 + _ + _ ≤ 1000000; omega), (by rw [List.length_append, List.length_singleton]; omega), hcut, fun H6 pt qt s7 n7 e7 tk7 => ?_⟩
        refine ⟨_, rfl, _, _, .lst (SqL.of e7) (dp_all tk7 plB), .lst (SqL.of (s7 _ _ (s6 _ _ edB))) (dp_all ((tkB.same s6).same s7) plB), shaped_all plB, shaped_all plB, ?_⟩
        have hlay : (PyData.list ((due ++ [(kFault, (t ++ [32]).length + off, V.str m)]).map tkD)).canLay0 = true := lay_all plB
        rw [SeqAt.eqv_refl _ hlay]
        exact q _
end
end My
namespace My
open PySem L2 SX
theorem esc_of {K : PySem.W.Frag} {eA : Addr} {oc : Value} {od : Option Addr} {es : Array DictEntry} {n : Nat} {sl : Array (Option Value)} {h1 h2 h3 : Int} {t1 t2 t3 u1 u2 u3 : Tok} (l : K.lookup eA = some ⟨oc, od, .dict es n, sl⟩)
    (e : es.toList = [⟨h1, .str "n" t1, .str "\n" u1⟩, ⟨h2, .str "\"" t2, .str "\"" u2⟩, ⟨h3, .str "\\" t3, .str "\\" u3⟩]) (c : Nat) :
    ∃ r, PySem.W.nsIn K eA (S [c]) = some r ∧ (∀ d, esc c = some d → ∃ u, r = some u ∧ RelV (.str (S [d])) u) ∧ (esc c = none → r = none) := by
  have k1 : (("n" : Str) == S [c]) = decide (c = 110) := by
    rw [show (("n" : Str)) = S [110] by decide +kernel, S_beq_eq, Bool.eq_iff_iff]
    simp
    exact eq_comm
  have k2 : (("\"" : Str) == S [c]) = decide (c = 34) := by
    rw [show (("\"" : Str)) = S [34] by decide +kernel, S_beq_eq, Bool.eq_iff_iff]
    simp
    exact eq_comm
  have k3 : (("\\" : Str) == S [c]) = decide (c = 92) := by
    rw [show (("\\" : Str)) = S [92] by decide +kernel, S_beq_eq, Bool.eq_iff_iff]
    simp
    exact eq_comm
  have v1 : (("\n" : Str)) = S [10] := by decide +kernel
  have v2 : (("\"" : Str)) = S [34] := by decide +kernel
  have v3 : (("\\" : Str)) = S [92] := by decide +kernel
  unfold PySem.W.nsIn esc
  rw [l]
  simp only [e, List.find?_cons, List.find?_nil, Value.isStr, k1, k2, k3, List.any_cons, List.any_nil, DictEntry.refKey]
  by_cases c1 : c = 110
  · simp [c1]
    exact ⟨u1, by rw [v1]⟩
  · by_cases c2 : c = 34
    · simp [c1, c2]
      exact ⟨u2, by rw [v2]⟩
    · by_cases c3 : c = 92
      · simp [c1, c2, c3]
        exact ⟨u3, by rw [v3]⟩
      · simp [c1, c2, c3]
theorem all_mk {l : PySem.W.OpenLaw} {w : World} {K : PySem.W.Frag} {h : Heap} {mg : Str → Option Value} {fa f1 f2 f3 f4 f5 f6 f7 f8 f9 f10 f11 f12 f13 f14 f15 f16 f17 f18 f19 wA lA eA : Addr} (X : K.In h) (G : h.Ns mainGlobals mg) (hfa : mg "law" = some (.ref fa))
    {od1 an1 od2 an2 od3 an3 od4 an4 od5 an5 od6 an6 od7 an7 od8 an8 od9 an9 od10 an10 od11 an11 od12 an12 od13 an13 od14 an14 od15 an15 od16 an16 od17 an17 od18 an18 od19 an19 : Option Addr} {sl1 sl2 sl3 sl4 sl5 sl6 sl7 sl8 sl9 sl10 sl11 sl12 sl13 sl14 sl15 sl16 sl17 sl18 sl19 : Array (Option Value)} {oc1 kV1 dc1 pm1 cd1 ct1 oc2 kV2 dc2 pm2 cd2 ct2 oc3 kV3 dc3 pm3 cd3 ct3 oc4 kV4 dc4 pm4 cd4 ct4 oc5 kV5 dc5 pm5 cd5 ct5 oc6 kV6 dc6 pm6 cd6 ct6 oc7 kV7 dc7 pm7 cd7 ct7 oc8 kV8 dc8 pm8 cd8 ct8 oc9 kV9 dc9 pm9 cd9 ct9 oc10 kV10 dc10 pm10 cd10 ct10 oc11 kV11 dc11 pm11 cd11 ct11 oc12 kV12 dc12 pm12 cd12 ct12 oc13 kV13 dc13 pm13 cd13 ct13 oc14 kV14 dc14 pm14 cd14 ct14 oc15 kV15 dc15 pm15 cd15 ct15 oc16 kV16 dc16 pm16 cd16 ct16 oc17 kV17 dc17 pm17 cd17 ct17 oc18 kV18 dc18 pm18 cd18 ct18 oc19 kV19 dc19 pm19 cd19 ct19 : Value}
    {xLETTERS xDIGITS xSHORT_SIGNS xNA : Str} {tLETTERS tDIGITS tSHORT_SIGNS tNA tMOST_DIGITS tPERCENT tE1 tE2 tE3 uE1 uE2 uE3 : Tok} {xMOST_DIGITS xPERCENT hE1 hE2 hE3 : Int} {ddWORDS ddLONG_SIGNS : Option Addr} {itsWORDS itsLONG_SIGNS : Array Value} {nnWORDS nnLONG_SIGNS nE : Nat} {osWORDS osLONG_SIGNS : Array (Option Value)} {esE : Array DictEntry}
    (a1 : PySem.W.nsIn K mainGlobals "tokens_of" = some (some (.ref f1))) (l1 : K.lookup f1 = some ⟨oc1, od1, .func (PySem.W.fnOf "tokens_of" "tokens_of" (defArgs sTokensOf) (defBody sTokensOf) (defScope sTokensOf) .none kV1 dc1 pm1 an1 cd1 ct1), sl1⟩) (c1 : PySem.W.codeIn K cd1 "tokens_of" = true) (k1 : PySem.W.keepIn K (.ref f1) = true)
    (a2 : PySem.W.nsIn K mainGlobals "gaps_end" = some (some (.ref f2))) (l2 : K.lookup f2 = some ⟨oc2, od2, .func (PySem.W.fnOf "gaps_end" "gaps_end" (defArgs sGapsEnd) (defBody sGapsEnd) (defScope sGapsEnd) .none kV2 dc2 pm2 an2 cd2 ct2), sl2⟩) (c2 : PySem.W.codeIn K cd2 "gaps_end" = true) (k2 : PySem.W.keepIn K (.ref f2) = true)
    (a3 : PySem.W.nsIn K mainGlobals "comment_end" = some (some (.ref f3))) (l3 : K.lookup f3 = some ⟨oc3, od3, .func (PySem.W.fnOf "comment_end" "comment_end" (defArgs sCommentEnd) (defBody sCommentEnd) (defScope sCommentEnd) .none kV3 dc3 pm3 an3 cd3 ct3), sl3⟩) (c3 : PySem.W.codeIn K cd3 "comment_end" = true) (k3 : PySem.W.keepIn K (.ref f3) = true)
    (a4 : PySem.W.nsIn K mainGlobals "token_at" = some (some (.ref f4))) (l4 : K.lookup f4 = some ⟨oc4, od4, .func (PySem.W.fnOf "token_at" "token_at" (defArgs sTokenAt) (defBody sTokenAt) (defScope sTokenAt) .none kV4 dc4 pm4 an4 cd4 ct4), sl4⟩) (c4 : PySem.W.codeIn K cd4 "token_at" = true) (k4 : PySem.W.keepIn K (.ref f4) = true)
    (a5 : PySem.W.nsIn K mainGlobals "run_end" = some (some (.ref f5))) (l5 : K.lookup f5 = some ⟨oc5, od5, .func (PySem.W.fnOf "run_end" "run_end" (defArgs sRunEnd) (defBody sRunEnd) (defScope sRunEnd) .none kV5 dc5 pm5 an5 cd5 ct5), sl5⟩) (c5 : PySem.W.codeIn K cd5 "run_end" = true) (k5 : PySem.W.keepIn K (.ref f5) = true)
    (a6 : PySem.W.nsIn K mainGlobals "name_token" = some (some (.ref f6))) (l6 : K.lookup f6 = some ⟨oc6, od6, .func (PySem.W.fnOf "name_token" "name_token" (defArgs sNameToken) (defBody sNameToken) (defScope sNameToken) .none kV6 dc6 pm6 an6 cd6 ct6), sl6⟩) (c6 : PySem.W.codeIn K cd6 "name_token" = true) (k6 : PySem.W.keepIn K (.ref f6) = true)
    (a7 : PySem.W.nsIn K mainGlobals "number_token" = some (some (.ref f7))) (l7 : K.lookup f7 = some ⟨oc7, od7, .func (PySem.W.fnOf "number_token" "number_token" (defArgs sNumberToken) (defBody sNumberToken) (defScope sNumberToken) .none kV7 dc7 pm7 an7 cd7 ct7), sl7⟩) (c7 : PySem.W.codeIn K cd7 "number_token" = true) (k7 : PySem.W.keepIn K (.ref f7) = true)
    (a8 : PySem.W.nsIn K mainGlobals "text_token" = some (some (.ref f8))) (l8 : K.lookup f8 = some ⟨oc8, od8, .func (PySem.W.fnOf "text_token" "text_token" (defArgs sTextToken) (defBody sTextToken) (defScope sTextToken) .none kV8 dc8 pm8 an8 cd8 ct8), sl8⟩) (c8 : PySem.W.codeIn K cd8 "text_token" = true) (k8 : PySem.W.keepIn K (.ref f8) = true)
    (a9 : PySem.W.nsIn K mainGlobals "text_fault" = some (some (.ref f9))) (l9 : K.lookup f9 = some ⟨oc9, od9, .func (PySem.W.fnOf "text_fault" "text_fault" (defArgs sTextFault) (defBody sTextFault) (defScope sTextFault) .none kV9 dc9 pm9 an9 cd9 ct9), sl9⟩) (c9 : PySem.W.codeIn K cd9 "text_fault" = true) (k9 : PySem.W.keepIn K (.ref f9) = true)
    (a10 : PySem.W.nsIn K mainGlobals "is_character" = some (some (.ref f10))) (l10 : K.lookup f10 = some ⟨oc10, od10, .func (PySem.W.fnOf "is_character" "is_character" (defArgs sIsCharacter) (defBody sIsCharacter) (defScope sIsCharacter) .none kV10 dc10 pm10 an10 cd10 ct10), sl10⟩) (c10 : PySem.W.codeIn K cd10 "is_character" = true) (k10 : PySem.W.keepIn K (.ref f10) = true)
    (a11 : PySem.W.nsIn K mainGlobals "_law_rows" = some (some (.ref f11))) (l11 : K.lookup f11 = some ⟨oc11, od11, .func (PySem.W.fnOf "_law_rows" "_law_rows" (defArgs sRows) (defBody sRows) (defScope sRows) .none kV11 dc11 pm11 an11 cd11 ct11), sl11⟩) (c11 : PySem.W.codeIn K cd11 "_law_rows" = true) (k11 : PySem.W.keepIn K (.ref f11) = true)
    (a12 : PySem.W.nsIn K mainGlobals "_law_word" = some (some (.ref f12))) (l12 : K.lookup f12 = some ⟨oc12, od12, .func (PySem.W.fnOf "_law_word" "_law_word" (defArgs sLawWord) (defBody sLawWord) (defScope sLawWord) .none kV12 dc12 pm12 an12 cd12 ct12), sl12⟩) (c12 : PySem.W.codeIn K cd12 "_law_word" = true) (k12 : PySem.W.keepIn K (.ref f12) = true)
    (a13 : PySem.W.nsIn K mainGlobals "_law_name" = some (some (.ref f13))) (l13 : K.lookup f13 = some ⟨oc13, od13, .func (PySem.W.fnOf "_law_name" "_law_name" (defArgs sLawName) (defBody sLawName) (defScope sLawName) .none kV13 dc13 pm13 an13 cd13 ct13), sl13⟩) (c13 : PySem.W.codeIn K cd13 "_law_name" = true) (k13 : PySem.W.keepIn K (.ref f13) = true)
    (a14 : PySem.W.nsIn K mainGlobals "_law_text" = some (some (.ref f14))) (l14 : K.lookup f14 = some ⟨oc14, od14, .func (PySem.W.fnOf "_law_text" "_law_text" (defArgs sLawText) (defBody sLawText) (defScope sLawText) .none kV14 dc14 pm14 an14 cd14 ct14), sl14⟩) (c14 : PySem.W.codeIn K cd14 "_law_text" = true) (k14 : PySem.W.keepIn K (.ref f14) = true)
    (a15 : PySem.W.nsIn K mainGlobals "_law_spelled" = some (some (.ref f15))) (l15 : K.lookup f15 = some ⟨oc15, od15, .func (PySem.W.fnOf "_law_spelled" "_law_spelled" (defArgs sLawSpelled) (defBody sLawSpelled) (defScope sLawSpelled) .none kV15 dc15 pm15 an15 cd15 ct15), sl15⟩) (c15 : PySem.W.codeIn K cd15 "_law_spelled" = true) (k15 : PySem.W.keepIn K (.ref f15) = true)
    (a16 : PySem.W.nsIn K mainGlobals "_law_piece" = some (some (.ref f16))) (l16 : K.lookup f16 = some ⟨oc16, od16, .func (PySem.W.fnOf "_law_piece" "_law_piece" (defArgs sLawPiece) (defBody sLawPiece) (defScope sLawPiece) .none kV16 dc16 pm16 an16 cd16 ct16), sl16⟩) (c16 : PySem.W.codeIn K cd16 "_law_piece" = true) (k16 : PySem.W.keepIn K (.ref f16) = true)
    (a17 : PySem.W.nsIn K mainGlobals "_law_gap" = some (some (.ref f17))) (l17 : K.lookup f17 = some ⟨oc17, od17, .func (PySem.W.fnOf "_law_gap" "_law_gap" (defArgs sLawGap) (defBody sLawGap) (defScope sLawGap) .none kV17 dc17 pm17 an17 cd17 ct17), sl17⟩) (c17 : PySem.W.codeIn K cd17 "_law_gap" = true) (k17 : PySem.W.keepIn K (.ref f17) = true)
    (a18 : PySem.W.nsIn K mainGlobals "_law_wrong" = some (some (.ref f18))) (l18 : K.lookup f18 = some ⟨oc18, od18, .func (PySem.W.fnOf "_law_wrong" "_law_wrong" (defArgs sLawWrong) (defBody sLawWrong) (defScope sLawWrong) .none kV18 dc18 pm18 an18 cd18 ct18), sl18⟩) (c18 : PySem.W.codeIn K cd18 "_law_wrong" = true) (k18 : PySem.W.keepIn K (.ref f18) = true)
    (a19 : PySem.W.nsIn K mainGlobals "law" = some (some (.ref f19))) (l19 : K.lookup f19 = some ⟨oc19, od19, .func (PySem.W.fnOf "law" "law" (defArgs sLaw) (defBody sLaw) (defScope sLaw) .none kV19 dc19 pm19 an19 cd19 ct19), sl19⟩) (c19 : PySem.W.codeIn K cd19 "law" = true) (k19 : PySem.W.keepIn K (.ref f19) = true)
    (z1 : PySem.W.nsIn K mainGlobals "range" = some none)
    (z2 : PySem.W.nsIn K mainGlobals "len" = some none)
    (z3 : PySem.W.nsIn K mainGlobals "int" = some none)
    (z4 : PySem.W.nsIn K mainGlobals "str" = some none)
    (z5 : PySem.W.nsIn K mainGlobals "ord" = some none)
    (z6 : PySem.W.nsIn K mainGlobals "isinstance" = some none)
    (z7 : PySem.W.nsIn K mainGlobals "list" = some none)
    (z8 : PySem.W.nsIn K mainGlobals "tuple" = some none)
    (z9 : PySem.W.nsIn K mainGlobals "bool" = some none)
    (sLETTERS : PySem.W.nsIn K mainGlobals "LETTERS" = some (some (.str xLETTERS tLETTERS)))
    (eLETTERS : xLETTERS = S letC)
    (sDIGITS : PySem.W.nsIn K mainGlobals "DIGITS" = some (some (.str xDIGITS tDIGITS)))
    (eDIGITS : xDIGITS = S digC)
    (sSHORT_SIGNS : PySem.W.nsIn K mainGlobals "SHORT_SIGNS" = some (some (.str xSHORT_SIGNS tSHORT_SIGNS)))
    (eSHORT_SIGNS : xSHORT_SIGNS = S shortC)
    (sNA : PySem.W.nsIn K mainGlobals "NOT_ALLOWED" = some (some (.str xNA tNA)))
    (eNA : xNA = notAllowed)
    (sMOST_DIGITS : PySem.W.nsIn K mainGlobals "MOST_DIGITS" = some (some (.int xMOST_DIGITS tMOST_DIGITS)))
    (eMOST_DIGITS : xMOST_DIGITS = 300)
    (sPERCENT : PySem.W.nsIn K mainGlobals "PERCENT" = some (some (.int xPERCENT tPERCENT)))
    (ePERCENT : xPERCENT = 37)
    (sWORDS : PySem.W.nsIn K mainGlobals "WORDS" = some (some (.ref wA)))
    (lWORDS : K.lookup wA = some ⟨.type "tuple", ddWORDS, .seq itsWORDS nnWORDS, osWORDS⟩)
    (vWORDS : Vals wordsV itsWORDS.toList)
    (nWORDS : itsWORDS.size ≤ sizeLine)
    (sLONG_SIGNS : PySem.W.nsIn K mainGlobals "LONG_SIGNS" = some (some (.ref lA)))
    (lLONG_SIGNS : K.lookup lA = some ⟨.type "tuple", ddLONG_SIGNS, .seq itsLONG_SIGNS nnLONG_SIGNS, osLONG_SIGNS⟩)
    (vLONG_SIGNS : Vals longV itsLONG_SIGNS.toList)
    (nLONG_SIGNS : itsLONG_SIGNS.size ≤ sizeLine)
    (sESC : PySem.W.nsIn K mainGlobals "ESCAPES" = some (some (.ref eA)))
    (lESC : K.lookup eA = some ⟨.type "dict", none, .dict esE nE, #[]⟩)
    (xESC : esE.toList = [⟨hE1, .str "n" tE1, .str "\n" uE1⟩, ⟨hE2, .str "\"" tE2, .str "\"" uE2⟩, ⟨hE3, .str "\\" tE3, .str "\\" uE3⟩])
    (kESC : hE1 = PyData.keyHash w.params "n" ∧ hE2 = PyData.keyHash w.params "\"" ∧ hE3 = PyData.keyHash w.params "\\")
    (wESC : (eA == sysModules) = false)
    : ∃ fd : FuncData, (∀ (s : Shared) (v : Value), BindsTo s fd ⟨[v], []⟩ [("script", v)]) ∧ ∀ base : Heap, K.In base → base.Ns mainGlobals mg → FnOk l.prog w K mg base CX0 6 fa fd ["script"] (spLaw K) := by
  have e := hfa.symm.trans (PySem.W.mg_of X G a19)
  cases e
  have B : Bl mg := ⟨PySem.W.mg_none_of X G z1, PySem.W.mg_none_of X G z2, PySem.W.mg_none_of X G z3, PySem.W.mg_none_of X G z4, PySem.W.mg_none_of X G z5, PySem.W.mg_none_of X G z6, PySem.W.mg_none_of X G z7, PySem.W.mg_none_of X G z8, PySem.W.mg_none_of X G z9⟩
  have F1 := fun_mk (st := sTokensOf) l1 c1 k1
  have F2 := fun_mk (st := sGapsEnd) l2 c2 k2
  have F3 := fun_mk (st := sCommentEnd) l3 c3 k3
  have F4 := fun_mk (st := sTokenAt) l4 c4 k4
  have F5 := fun_mk (st := sRunEnd) l5 c5 k5
  have F6 := fun_mk (st := sNameToken) l6 c6 k6
  have F7 := fun_mk (st := sNumberToken) l7 c7 k7
  have F8 := fun_mk (st := sTextToken) l8 c8 k8
  have F9 := fun_mk (st := sTextFault) l9 c9 k9
  have F10 := fun_mk (st := sIsCharacter) l10 c10 k10
  have F11 := fun_mk (st := sRows) l11 c11 k11
  have F12 := fun_mk (st := sLawWord) l12 c12 k12
  have F13 := fun_mk (st := sLawName) l13 c13 k13
  have F14 := fun_mk (st := sLawText) l14 c14 k14
  have F15 := fun_mk (st := sLawSpelled) l15 c15 k15
  have F16 := fun_mk (st := sLawPiece) l16 c16 k16
  have F17 := fun_mk (st := sLawGap) l17 c17 k17
  have F18 := fun_mk (st := sLawWrong) l18 c18 k18
  have F19 := fun_mk (st := sLaw) l19 c19 k19
  have b1 := F1.binds (ps := ["text"]) fun _ _ _ _ _ _ us hl => match us, hl with | [_], _ => rfl
  have g1 := PySem.W.mg_of X G a1
  have b2 := F2.binds (ps := ["text", "at"]) fun _ _ _ _ _ _ us hl => match us, hl with | [_, _], _ => rfl
  have g2 := PySem.W.mg_of X G a2
  have b3 := F3.binds (ps := ["text", "at"]) fun _ _ _ _ _ _ us hl => match us, hl with | [_, _], _ => rfl
  have g3 := PySem.W.mg_of X G a3
  have b4 := F4.binds (ps := ["text", "at"]) fun _ _ _ _ _ _ us hl => match us, hl with | [_, _], _ => rfl
  have g4 := PySem.W.mg_of X G a4
  have b5 := F5.binds (ps := ["text", "at", "signs"]) fun _ _ _ _ _ _ us hl => match us, hl with | [_, _, _], _ => rfl
  have g5 := PySem.W.mg_of X G a5
  have b6 := F6.binds (ps := ["text", "at"]) fun _ _ _ _ _ _ us hl => match us, hl with | [_, _], _ => rfl
  have g6 := PySem.W.mg_of X G a6
  have b7 := F7.binds (ps := ["text", "at"]) fun _ _ _ _ _ _ us hl => match us, hl with | [_, _], _ => rfl
  have g7 := PySem.W.mg_of X G a7
  have b8 := F8.binds (ps := ["text", "start"]) fun _ _ _ _ _ _ us hl => match us, hl with | [_, _], _ => rfl
  have g8 := PySem.W.mg_of X G a8
  have b9 := F9.binds (ps := ["text", "start", "at"]) fun _ _ _ _ _ _ us hl => match us, hl with | [_, _, _], _ => rfl
  have g9 := PySem.W.mg_of X G a9
  have b10 := F10.binds (ps := ["sign"]) fun _ _ _ _ _ _ us hl => match us, hl with | [_], _ => rfl
  have g10 := PySem.W.mg_of X G a10
  have b11 := F11.binds (ps := ["script", "count"]) fun _ _ _ _ _ _ us hl => match us, hl with | [_, _], _ => rfl
  have g11 := PySem.W.mg_of X G a11
  have b12 := F12.binds (ps := ["row"]) fun _ _ _ _ _ _ us hl => match us, hl with | [_], _ => rfl
  have g12 := PySem.W.mg_of X G a12
  have b13 := F13.binds (ps := ["row"]) fun _ _ _ _ _ _ us hl => match us, hl with | [_], _ => rfl
  have g13 := PySem.W.mg_of X G a13
  have b14 := F14.binds (ps := ["row"]) fun _ _ _ _ _ _ us hl => match us, hl with | [_], _ => rfl
  have g14 := PySem.W.mg_of X G a14
  have b15 := F15.binds (ps := ["text"]) fun _ _ _ _ _ _ us hl => match us, hl with | [_], _ => rfl
  have g15 := PySem.W.mg_of X G a15
  have b16 := F16.binds (ps := ["row"]) fun _ _ _ _ _ _ us hl => match us, hl with | [_], _ => rfl
  have g16 := PySem.W.mg_of X G a16
  have b17 := F17.binds (ps := ["row", "before", "after"]) fun _ _ _ _ _ _ us hl => match us, hl with | [_, _, _], _ => rfl
  have g17 := PySem.W.mg_of X G a17
  have b18 := F18.binds (ps := ["row"]) fun _ _ _ _ _ _ us hl => match us, hl with | [_], _ => rfl
  have g18 := PySem.W.mg_of X G a18
  have T : Tx K w mg wA lA eA := ⟨⟨_, PySem.W.mg_of X G sLETTERS, tLETTERS, by rw [eLETTERS]⟩, ⟨_, PySem.W.mg_of X G sDIGITS, tDIGITS, by rw [eDIGITS]⟩, ⟨_, PySem.W.mg_of X G sSHORT_SIGNS, tSHORT_SIGNS, by rw [eSHORT_SIGNS]⟩, ⟨_, PySem.W.mg_of X G sMOST_DIGITS, tMOST_DIGITS, by rw [eMOST_DIGITS]⟩, ⟨_, PySem.W.mg_of X G sPERCENT, tPERCENT, by rw [ePERCENT]⟩, ⟨_, PySem.W.mg_of X G sNA, tNA, by rw [eNA]⟩,
    ⟨_, PySem.W.mg_of X G sWORDS, rfl⟩, ⟨_, PySem.W.mg_of X G sLONG_SIGNS, rfl⟩, ⟨_, PySem.W.mg_of X G sESC, rfl⟩, fun H => .inr ⟨_, _, _, lWORDS, rfl, rfl, nWORDS, vWORDS⟩, fun H => .inr ⟨_, _, _, lLONG_SIGNS, rfl, rfl, nLONG_SIGNS, vLONG_SIGNS⟩,
    ⟨esE, nE, ⟨lESC, by rw [xESC]; exact ⟨⟨_, _, rfl, kESC.1⟩, ⟨_, _, rfl, kESC.2.1⟩, ⟨_, _, rfl, kESC.2.2⟩, trivial⟩, wESC⟩⟩, esc_of lESC xESC⟩
  have L : Lex K mg f1 f2 f3 f4 f5 f6 f7 f8 f9 f10 _ _ _ _ _ _ _ _ _ _ := ⟨F1, b1, g1, F2, b2, g2, F3, b3, g3, F4, b4, g4, F5, b5, g5, F6, b6, g6, F7, b7, g7, F8, b8, g8, F9, b9, g9, F10, b10, g10⟩
  have D : LawD K mg f11 f12 f13 f14 f15 f16 f17 _ _ _ _ _ _ _ := ⟨F11, b11, g11, F12, b12, g12, F13, b13, g13, F14, b14, g14, F15, b15, g15, F16, b16, g16, F17, b17, g17⟩
  exact ⟨PySem.W.fnOf "law" "law" (defArgs sLaw) (defBody sLaw) (defScope sLaw) .none kV19 dc19 pm19 an19 cd19 ct19, fun s v => .of_eq rfl, fun base _ _ => okLaw F19 L D B T F18 b18 g18⟩
end My
open PySem PySem.W PyProof.Rows
set_option maxRecDepth 100000 in
set_option maxHeartbeats 0 in
theorem PySem.Challenge.cw_livequill_k02_faults_of_tokens_holds : PySem.Challenge.rw_livequill_k02_faults_of_tokens.Holds := by
  w_on; o_law; k_head; (case hw => w_witness2)
  k_fill
  refine L2.walk_of (l := PySem.Challenge.rw_livequill_k02_faults_of_tokens) (n := 63) (k := 6) (x := "script") (CX := fun _ => L2.CX0) (sp := fun w => My.spLaw _) rfl (by decide) rfl ⟨rfl, by decide, by decide⟩ (fun w h Y => PySem.W.kIn_of Y) ?F (fun _ _ a ns hl _ hS => ⟨a, ns, rfl, hS, hl, fun _ => rfl⟩) (fun _ _ _ _ _ h => h)
  case F =>
    intro w mg fa h KX G hmg
    refine' My.all_mk KX G hmg ?a1 ?l1 ?c1 ?k1 ?a2 ?l2 ?c2 ?k2 ?a3 ?l3 ?c3 ?k3 ?a4 ?l4 ?c4 ?k4 ?a5 ?l5 ?c5 ?k5 ?a6 ?l6 ?c6 ?k6 ?a7 ?l7 ?c7 ?k7 ?a8 ?l8 ?c8 ?k8 ?a9 ?l9 ?c9 ?k9 ?a10 ?l10 ?c10 ?k10 ?a11 ?l11 ?c11 ?k11 ?a12 ?l12 ?c12 ?k12 ?a13 ?l13 ?c13 ?k13 ?a14 ?l14 ?c14 ?k14 ?a15 ?l15 ?c15 ?k15 ?a16 ?l16 ?c16 ?k16 ?a17 ?l17 ?c17 ?k17 ?a18 ?l18 ?c18 ?k18 ?a19 ?l19 ?c19 ?k19 ?z1 ?z2 ?z3 ?z4 ?z5 ?z6 ?z7 ?z8 ?z9 ?sLETTERS ?eLETTERS ?sDIGITS ?eDIGITS ?sSHORT_SIGNS ?eSHORT_SIGNS ?sNA ?eNA ?sMOST_DIGITS ?eMOST_DIGITS ?sPERCENT ?ePERCENT ?sWORDS ?lWORDS ?vWORDS ?nWORDS ?sLONG_SIGNS ?lLONG_SIGNS ?vLONG_SIGNS ?nLONG_SIGNS ?sESC ?lESC ?xESC ?kESC ?wESC
    (case a1 => k_is)
    (case l1 => k_is)
    (case c1 => k_is)
    (case k1 => k_is)
    (case a2 => k_is)
    (case l2 => k_is)
    (case c2 => k_is)
    (case k2 => k_is)
    (case a3 => k_is)
    (case l3 => k_is)
    (case c3 => k_is)
    (case k3 => k_is)
    (case a4 => k_is)
    (case l4 => k_is)
    (case c4 => k_is)
    (case k4 => k_is)
    (case a5 => k_is)
    (case l5 => k_is)
    (case c5 => k_is)
    (case k5 => k_is)
    (case a6 => k_is)
    (case l6 => k_is)
    (case c6 => k_is)
    (case k6 => k_is)
    (case a7 => k_is)
    (case l7 => k_is)
    (case c7 => k_is)
    (case k7 => k_is)
    (case a8 => k_is)
    (case l8 => k_is)
    (case c8 => k_is)
    (case k8 => k_is)
    (case a9 => k_is)
    (case l9 => k_is)
    (case c9 => k_is)
    (case k9 => k_is)
    (case a10 => k_is)
    (case l10 => k_is)
    (case c10 => k_is)
    (case k10 => k_is)
    (case a11 => k_is)
    (case l11 => k_is)
    (case c11 => k_is)
    (case k11 => k_is)
    (case a12 => k_is)
    (case l12 => k_is)
    (case c12 => k_is)
    (case k12 => k_is)
    (case a13 => k_is)
    (case l13 => k_is)
    (case c13 => k_is)
    (case k13 => k_is)
    (case a14 => k_is)
    (case l14 => k_is)
    (case c14 => k_is)
    (case k14 => k_is)
    (case a15 => k_is)
    (case l15 => k_is)
    (case c15 => k_is)
    (case k15 => k_is)
    (case a16 => k_is)
    (case l16 => k_is)
    (case c16 => k_is)
    (case k16 => k_is)
    (case a17 => k_is)
    (case l17 => k_is)
    (case c17 => k_is)
    (case k17 => k_is)
    (case a18 => k_is)
    (case l18 => k_is)
    (case c18 => k_is)
    (case k18 => k_is)
    (case a19 => k_is)
    (case l19 => k_is)
    (case c19 => k_is)
    (case k19 => k_is)
    (case z1 => k_is)
    (case z2 => k_is)
    (case z3 => k_is)
    (case z4 => k_is)
    (case z5 => k_is)
    (case z6 => k_is)
    (case z7 => k_is)
    (case z8 => k_is)
    (case z9 => k_is)
    (case sLETTERS => k_is)
    (case eLETTERS => decide +kernel)
    (case sDIGITS => k_is)
    (case eDIGITS => decide +kernel)
    (case sSHORT_SIGNS => k_is)
    (case eSHORT_SIGNS => decide +kernel)
    (case sNA => k_is)
    (case eNA => rfl)
    (case sMOST_DIGITS => k_is)
    (case eMOST_DIGITS => rfl)
    (case sPERCENT => k_is)
    (case ePERCENT => rfl)
    (case sWORDS => k_is)
    (case lWORDS => k_is)
    (case vWORDS => repeat (first | exact PySem.Paired.nil | refine PySem.Paired.cons ⟨_, rfl⟩ ?_))
    (case nWORDS => (rw [sizeLine_eq]; decide))
    (case sLONG_SIGNS => k_is)
    (case lLONG_SIGNS => k_is)
    (case vLONG_SIGNS => repeat (first | exact PySem.Paired.nil | refine PySem.Paired.cons ⟨_, rfl⟩ ?_))
    (case nLONG_SIGNS => (rw [sizeLine_eq]; decide))
    (case sESC => k_is)
    (case lESC => k_is)
    (case xESC => rfl)
    (case kESC => exact ⟨rfl, rfl, rfl⟩)
    (case wESC => first | rfl | decide)
