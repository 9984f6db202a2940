import PyProof.Rows.All
import Wide.All
import OpenK.AllK
import Wide.FinOn
import HandS.ForMost
import HandS.StrMore
import HandS.IsInst
import HandS.Codes
import PySem.Challenge.RW_livequill_k12_places_and_changes
set_option Elab.async false
set_option linter.all false
set_option maxRecDepth 100000
/-! Lines and columns, and changes of a text: def by def. -/
namespace My
open PySem L2 SX
open C8 (pss_cut tCut cutS_slice)
/-! ### the text -/
def top (i : Nat) : Stmt := PySem.Challenge.pw_livequill_k12_places_and_changes.main.body.getD i (.Pass ⟨0, 0, 0, 0⟩)
abbrev sPlace : Stmt := top 1
abbrev sChanged : Stmt := top 2
abbrev sRows : Stmt := top 4
abbrev sDrawn : Stmt := top 5
abbrev sLaw : Stmt := top 6
/-! ### the mathematics -/
def col (m : List Nat) : Int := m.foldl (fun a c => if c = 10 then 1 else a + 1) 1
theorem col_nil : col [] = 1 := rfl
theorem col_snoc (m : List Nat) (c : Nat) : col (m ++ [c]) = if c = 10 then 1 else col m + 1 := by
  unfold col
  rw [List.foldl_append]
  rfl
theorem col_none : ∀ (m : List Nat) (a : Int), 10 ∉ m → m.foldl (fun a c => if c = 10 then (1 : Int) else a + 1) a = a + m.length
  | [], a, _ => by simp
  | c :: m, a, h => by
    have hc : c ≠ 10 := fun e => h (by rw [e]; exact List.mem_cons_self ..)
    rw [List.foldl_cons, if_neg hc, col_none m _ (fun z => h (List.mem_cons_of_mem _ z)), List.length_cons]
    omega
theorem len1c (c : Nat) : (S [c]).length = 1 := rfl
theorem at_one (m : List Nat) (k : Nat) : StrLaws.At (S m) (S [10]) (S m).length k ↔ m[k]? = some 10 := StrLaws.subAt_one (S m) 10 k
theorem col_rfind (m : List Nat) : (m.length : Int) - Txt.rfind (S m) (S [10]) = col m := by
  unfold Txt.rfind
  rcases StrLaws.last_spec (S m) (S [10]) with ⟨e, h⟩ | ⟨i, e, hi, h⟩
  · rw [e]
    have hn : 10 ∉ m := fun hm => by
      obtain ⟨j, hj⟩ := List.getElem?_of_mem hm
      exact h j ((at_one m j).mpr hj)
    show (m.length : Int) - -1 = col m
    unfold col
    rw [col_none m 1 hn]
    omega
  · rw [e]
    have hi' := (at_one m i).mp hi
    have hlt : i < m.length := (List.getElem?_eq_some_iff.mp hi').1
    have hn : 10 ∉ m.drop (i + 1) := fun hm => by
      obtain ⟨j, hj⟩ := List.getElem?_of_mem hm
      rw [List.getElem?_drop] at hj
      exact h (i + 1 + j) (by omega) ((at_one m _).mpr hj)
    have em : m = (m.take i ++ [10]) ++ m.drop (i + 1) := by
      have h10 : m[i] = 10 := (List.getElem?_eq_some_iff.mp hi').2
      have e1 : m.drop i = m[i] :: m.drop (i + 1) := List.drop_eq_getElem_cons hlt
      rw [List.append_assoc, List.singleton_append, ← h10, ← e1, List.take_append_drop]
    have e2 : col m = 1 + ((m.drop (i + 1)).length : Int) := by
      have : col m = (m.drop (i + 1)).foldl (fun a c => if c = 10 then (1 : Int) else a + 1) (col (m.take i ++ [10])) := by
        unfold col
        rw [← List.foldl_append, ← em]
      rw [this, col_snoc, if_pos rfl, col_none _ _ hn]
    rw [e2, List.length_drop]
    show (m.length : Int) - (i : Int) = _
    omega
theorem count_chain (m : List Nat) (f : Nat) (hf : ∀ k, f ≤ k → ¬ StrLaws.At (S m) (S [10]) (S m).length k) : ∀ (cuts : List Nat) (a : Nat), StrLaws.ChainG (S m) (S [10]) (S m).length a cuts f → (m.drop a).count 10 = cuts.length
  | [], a, h => by
    have e : f = a := h
    subst e
    rw [List.count_eq_zero.mpr]
    · rfl
    · intro hm
      obtain ⟨j, hj⟩ := List.getElem?_of_mem hm
      rw [List.getElem?_drop] at hj
      exact hf (f + j) (by omega) ((at_one m _).mpr hj)
  | c :: r, a, h => by
    have ih := count_chain m f hf r _ h.2.2.2
    have hc := (at_one m c).mp h.2.1
    have hlt : c < m.length := (List.getElem?_eq_some_iff.mp hc).1
    have h10 : m[c] = 10 := (List.getElem?_eq_some_iff.mp hc).2
    have hac : a ≤ c := h.1
    have e1 : m.drop c = m[c] :: m.drop (c + 1) := List.drop_eq_getElem_cons hlt
    have e2 : m.drop a = (m.drop a).take (c - a) ++ m.drop c := by
      have : m.drop c = (m.drop a).drop (c - a) := by
        rw [List.drop_drop]
        congr 1
        omega
      rw [this, List.take_append_drop]
    have e3 : ((m.drop a).take (c - a)).count 10 = 0 := by
      rw [List.count_eq_zero]
      intro hm
      obtain ⟨j, hj⟩ := List.getElem?_of_mem hm
      have hj2 : j < c - a := by
        have h1 := (List.getElem?_eq_some_iff.mp hj).1
        rw [List.length_take] at h1
        omega
      rw [List.getElem?_take_of_lt hj2, List.getElem?_drop] at hj
      exact h.2.2.1 (a + j) (by omega) (by omega) ((at_one m _).mpr hj)
    rw [e2, List.count_append, e3, e1, h10, List.count_cons_self]
    have ih' : (m.drop (c + 1)).count 10 = r.length := ih
    rw [ih', List.length_cons]
    omega
theorem count_eq (m : List Nat) : Txt.count (S m) (S [10]) = (m.count 10 : Int) := by
  unfold Txt.count
  obtain ⟨f, h1, h2⟩ := StrLaws.occ_tight (S m) (S [10]) (Nat.le_refl 1)
  have e := count_chain m f h2 _ 0 h1
  rw [List.drop_zero] at e
  rw [e]
theorem cut_to (l : List Nat) (i : Nat) : cutS (S l) none (some (i : Int)) = S (l.take i) := by
  rw [cutS_slice, slice_to (by omega), Int.toNat_natCast]
theorem cut_from (l : List Nat) (i : Nat) : cutS (S l) (some (i : Int)) none = S (l.drop i) := by
  rw [cutS_slice, slice_from (by omega), Int.toNat_natCast]
theorem cut_mid (l : List Nat) (i j : Nat) (hi : i ≤ j) (hj : j ≤ l.length) : cutS (S l) (some (i : Int)) (some (j : Int)) = S ((l.drop i).take (j - i)) := by
  have e1 : HT.sIx (S l).length 0 (some (i : Int)) = i := by
    rw [HT.sIx_nat, S_len]
    omega
  have e2 : HT.sIx (S l).length (S l).length (some (j : Int)) = j := by
    rw [HT.sIx_nat, S_len]
    omega
  unfold cutS
  rw [e1, e2]
theorem signs_7 {k : Int} (h0 : 0 ≤ k) (h7 : k < 7) : ∃ c, atI [V.str "a", V.str "\n", V.str " ", V.str "\n", V.str "x", V.str "{", V.str "}"] k = some (V.str (S [c])) := by
  have h : k = 0 ∨ k = 1 ∨ k = 2 ∨ k = 3 ∨ k = 4 ∨ k = 5 ∨ k = 6 := by omega
  rcases h with rfl | rfl | rfl | rfl | rfl | rfl | rfl
  · exact ⟨97, by decide +kernel⟩
  · exact ⟨10, by decide +kernel⟩
  · exact ⟨32, by decide +kernel⟩
  · exact ⟨10, by decide +kernel⟩
  · exact ⟨120, by decide +kernel⟩
  · exact ⟨123, by decide +kernel⟩
  · exact ⟨125, by decide +kernel⟩
theorem at_ofN {α : Type} {xs : List α} {z : Int} {j : Nat} {v : α} (e : z = (j : Int)) (h : xs[j]? = some v) : atI xs z = some v := by
  rw [e]
  exact atI_nat h
theorem nl : (("\n" : Str)) = S [10] := by decide +kernel
theorem same_upd {H : Hp} {p : Addr} {o : HO} (h : H p = none) : Same H (upd H p o) := fun b x e => by
  rw [upd_ne (ne_of_none e h)]
  exact e
/-- the names of built-ins that are still the built-ins -/
structure Bl (mg : Str → Option Value) : Prop where
  range : mg "range" = none
  len : mg "len" = none
  int : mg "int" = none
  isi : mg "isinstance" = none
  tup : mg "tuple" = none
section
variable {P : Program} {w : World} {K : PySem.W.Frag} {mg : Str → Option Value} {base : Heap}
/-! ### place_of -/
theorem scPlace : FnScope ["text", "offset", "before"] ["text", "offset"] (defScope sPlace) := ⟨rfl, rfl, rfl, by decide +kernel, rfl, by decide +kernel, by decide +kernel⟩
def spPlace : Sp := fun vs H Q _ => ∃ (l : List Nat) (i : Nat), vs = [.str (S l), .int (i : Int)] ∧ i ≤ l.length ∧ l.length ≤ 1000 ∧
  ∀ H' p, Same H H' → H p = none → H' p = some (.tup [.int (((l.take i).count 10 : Nat) + 1 : Int), .int (col (l.take i))]) → Q (.ref p) H'
theorem ok_place {f : Addr} {fd : FuncData} (F : Fun K "place_of" "place_of" sPlace f fd) : FnOk P w K mg base CX0 1 f fd ["text", "offset"] spPlace := by
  refine F.ok scPlace (fun vs H Q E h => ?_) (fun cdv A outer s H vs Q E hr h => ?_)
  · obtain ⟨l, i, rfl, _⟩ := h
    rfl
  · obtain ⟨l, i, rfl, hi, hl, q⟩ := h
    refine ⟨_, pss_cons (ps_set (i := 2) scPlace.nd rfl (.inl rfl) (pe_slice sl_str (pv 0) po_none (po_some (pv 1))))
      (pss_one (ps_ret (pe_tup (pa_cons (pe_op op_add (pe_m1 PySem.F.slot_str_count PySem.F.type_str_count mt_count (pv 2) pe_str) pe_int)
        (pa_cons (pe_op op_sub (pv 1) (pe_m1 PySem.F.slot_str_rfind PySem.F.type_str_rfind mt_rfind (pv 2) pe_str)) pa_nil))))), ?_⟩
    have hs : (S l).length ≤ sizeLine := by
      rw [S_len]
      have := sizeLine_eq
      omega
    refine ⟨_, rfl, _, rfl, _, rfl, S l, rfl, hs, ?_⟩
    rw [cut_to]
    refine ⟨_, rfl, ⟨_, rfl⟩, _, _, rfl, rfl, ?_⟩
    refine ⟨_, _, rfl, rfl, _, rfl, _, rfl, ⟨_, rfl⟩, _, _, rfl, rfl, ?_⟩
    refine ⟨_, _, rfl, rfl, (by show 2 ≤ sizeLine; decide), fun p hp => ?_⟩
    have e1 : (l.take i).length = i := by
      rw [List.length_take]
      omega
    have e2 := col_rfind (l.take i)
    rw [e1] at e2
    refine q _ p (same_upd hp) hp ?_
    rw [upd_same, nl, count_eq]
    dsimp only
    rw [e2]
/-! ### changed -/
theorem scChanged : FnScope ["text", "start", "stop", "new"] ["text", "start", "stop", "new"] (defScope sChanged) := ⟨rfl, rfl, rfl, by decide +kernel, rfl, by decide +kernel, by decide +kernel⟩
def spChanged : Sp := fun vs H Q _ => ∃ (l n : List Nat) (i j : Nat), vs = [.str (S l), .int (i : Int), .int (j : Int), .str (S n)] ∧ l.length ≤ 1000 ∧ n.length ≤ 1000 ∧ Q (.str (S (l.take i ++ n ++ l.drop j))) H
theorem ok_changed {f : Addr} {fd : FuncData} (F : Fun K "changed" "changed" sChanged f fd) : FnOk P w K mg base CX0 1 f fd ["text", "start", "stop", "new"] spChanged := by
  refine F.ok scChanged (fun vs H Q E h => ?_) (fun cdv A outer s H vs Q E hr h => ?_)
  · obtain ⟨l, n, i, j, rfl, _⟩ := h
    rfl
  · obtain ⟨l, n, i, j, rfl, hl, hn, q⟩ := h
    refine ⟨_, pss_one (ps_ret (pe_op op_add_str (pe_op op_add_str (pe_slice sl_str (pv 0) po_none (po_some (pv 1))) (pv 3)) (pe_slice sl_str (pv 0) (po_some (pv 2)) po_none))), ?_⟩
    have hz := sizeLine_eq
    have hs : (S l).length ≤ sizeLine := by
      rw [S_len]
      omega
    refine ⟨_, rfl, _, rfl, _, rfl, S l, rfl, hs, ?_⟩
    rw [cut_to]
    refine ⟨_, rfl, _, _, rfl, rfl, ?_, ?_⟩
    · rw [S_len, S_len, List.length_take]
      omega
    rw [S_cat]
    refine ⟨_, rfl, _, rfl, _, rfl, S l, rfl, hs, ?_⟩
    rw [cut_from]
    refine ⟨_, _, rfl, rfl, ?_, ?_⟩
    · rw [S_len, S_len, List.length_append, List.length_take, List.length_drop]
      omega
    rw [S_cat]
    exact q
/-! ### _law_rows -/
theorem scRows : FnScope ["script", "count", "rows", "k", "cell"] ["script", "count"] (defScope sRows) := ⟨rfl, rfl, rfl, by decide +kernel, rfl, by decide +kernel, by decide +kernel⟩
def spRows (K : PySem.W.Frag) : Sp := fun vs H Q _ => ∃ (a : Addr) (ns : List Int) (n : Nat), vs = [.ref a, .int (n : Int)] ∧ SqL K H a (ns.map V.int) ∧ ns.length ≤ 63 ∧ n ≤ 1000 ∧
  ∀ H' p (rs : List Int), Same H H' → H p = none → H' p = some (.lst (rs.map V.int)) → rs.length = n → Q (.ref p) H'
theorem ok_rows {f : Addr} {fd : FuncData} (F : Fun K "_law_rows" "_law_rows" sRows f fd) (B : Bl mg) : FnOk P w K mg base CX0 1 f fd ["script", "count"] (spRows K) := by
  refine F.ok scRows (fun vs H Q E h => ?_) (fun cdv A outer s H vs Q E hr h => ?_)
  · obtain ⟨a, ns, n, rfl, _⟩ := h
    rfl
  · obtain ⟨a, ns, n, rfl, hS, hlen, hn, q⟩ := h
    refine ⟨_, pss_cons (ps_set (i := 2) scRows.nd rfl (.inl rfl) (pe_lst pa_nil))
      (pss_cons (ps_for PassesOwn.never rfl (pi_range1 (by rfl) B.range (pa_cons (pv 1) pa_nil)) (pg_name (i := 3) scRows.nd rfl (.inl rfl))
        (pss_cons (ps_set (i := 4) scRows.nd rfl (.inl rfl) pe_int)
        (pss_cut (ps_if (pt_cmpR op_gt (pe_callB call_len_seq (by rfl) B.len PySem.boot_len (pa_cons (pv 0) pa_nil)) pe_int (nomark _))
          (pss_one (ps_set (i := 4) scRows.nd rfl (.inl rfl) (pe_callTy call_int1 (by rfl) B.int (by decide +kernel) (pa_cons
            (pe_ix ix_list (pv 0) (pe_op op_mod (pe_callTy call_int1 (by rfl) B.int (by decide +kernel) (pa_cons (pv 3) pa_nil)) (pe_callB call_len_seq (by rfl) B.len PySem.boot_len (pa_cons (pv 0) pa_nil))) (fun _ _ => rfl)) pa_nil)))) pss_nil)
        (pss_cut (ps_if (pt_cmpR op_lt (pv 4) pe_int (nomark _)) (pss_one (ps_set (i := 4) scRows.nd rfl (.inl rfl) (pe_op op_sub pe_int (pe_op op_mul pe_int (pv 4))))) pss_nil)
        (pss_cut (ps_if (PW.pt (pw_or (pt_cmpR op_ge (pv 3) (pe_callB call_len_seq (by rfl) B.len PySem.boot_len (pa_cons (pv 0) pa_nil)) (nomark _)) (pw_or1 (pt_cmpR op_lt (pv 4) pe_int (nomark _)))))
          (pss_cons (ps_set (i := 4) scRows.nd rfl (.inl rfl) (pe_op op_mod (pe_callTy call_int1 (by rfl) B.int (by decide +kernel) (pa_cons
              (pe_op op_add (pe_op op_mul (pe_op op_add (pe_op op_add (pv 4) (pe_op op_mul pe_int (pv 3))) pe_int) pe_int) (pe_op op_mul (pe_op op_mul (pv 3) (pv 3)) pe_int)) pa_nil)) pe_int))
          (pss_one (ps_set (i := 4) scRows.nd rfl (.inl rfl) (pe_op op_mod (pe_callTy call_int1 (by rfl) B.int (by decide +kernel) (pa_cons
              (pe_op op_mul (pe_op op_add (pe_op op_add (pv 4) (pe_op op_mul pe_int (pv 3))) pe_int) pe_int) pa_nil)) pe_int)))) pss_nil)
        (pss_one (ps_expr (pe_bm PySem.F.plainAttrs_list PySem.F.slot_list_append PySem.F.type_list_append mt_append (pv 2) (pa_cons (pv 4) pa_nil)))))))))
      (pss_one (ps_ret (pv 2)))), ?_⟩
    refine ⟨Nat.zero_le _, fun o no => ?_⟩
    refine ⟨_, rfl, (n : Int), rfl, by omega, by omega, for_range (n := (n : Int).toNat) (fun i σ H3 => ∃ (rs : List Int) (y3 y4 : Option V), σ = [some (.ref a), some (.int (n : Int)), some (.ref o), y3, y4] ∧ Same H H3 ∧ H3 o = some (.lst (rs.map V.int)) ∧ rs.length = i)
      ⟨[], none, none, rfl, same_upd no, upd_same, rfl⟩ ?_ ?_⟩
    · rintro i σ H3 hi ⟨rs, y3, y4, rfl, s3, eo, el⟩
      have hA : SqL K H3 a (ns.map V.int) := s3.seq hS
      have hi' : i < n := by omega
      have hz := sizeLine_eq
      let M : List (Option V) → Hp → Prop := fun σ' H' => ∃ cell : Int, σ' = [some (.ref a), some (.int (n : Int)), some (.ref o), some (.int (0 + (i : Int))), some (.int cell)] ∧ H' = H3
      have hk2 : -(2 ^ 64) < 0 + (i : Int) ∧ 0 + (i : Int) < 2 ^ 64 := ⟨by omega, by omega⟩
      -- if len(script) > 0: cell = int(script[int(k) % len(script)])
      refine ⟨M, ⟨_, rfl, a, _, rfl, .inl hA, _, _, rfl, rfl, _, rfl, ite2 (fun e => ?_) (fun _ => ⟨0, rfl, rfl⟩)⟩, ?_⟩
      · have e1 : (0 : Int) < ((ns.map V.int).length : Nat) := of_decide_eq_true e
        have e2 : 0 ≤ (0 + (i : Int)) % ((ns.map V.int).length : Nat) := Int.emod_nonneg _ (by omega)
        have e3 : (0 + (i : Int)) % ((ns.map V.int).length : Nat) < ((ns.map V.int).length : Nat) := Int.emod_lt_of_pos _ e1
        obtain ⟨j, ej⟩ : ∃ j : Nat, (0 + (i : Int)) % ((ns.map V.int).length : Nat) = (j : Int) := ⟨_, (Int.toNat_of_nonneg e2).symm⟩
        have hj : j < ns.length := by
          rw [ej, List.length_map] at e3
          omega
        refine ⟨_, rfl, _, rfl, .inl ⟨_, rfl, _, rfl, a, _, rfl, .inl hA, _, _, rfl, rfl, e1, a, _, _, V.int ns[j], rfl, rfl, hA, at_of ej ?_, .inl ⟨_, rfl, _, rfl, rfl⟩⟩⟩
        rw [List.getElem?_map, List.getElem?_eq_getElem hj]
        rfl
      rintro σ' H' ⟨cell, rfl, rfl⟩
      -- if cell < 0: cell = 1 - 2 * cell
      refine ⟨M, ⟨_, rfl, _, _, rfl, rfl, _, rfl, ite2 (fun _ => ?_) (fun _ => ⟨cell, rfl, rfl⟩)⟩, ?_⟩
      · exact ⟨_, rfl, _, _, rfl, rfl, .inl ⟨by decide, by decide⟩, _, _, rfl, rfl, _, rfl, rfl⟩
      rintro σ' H' ⟨cell, rfl, rfl⟩
      -- if k >= len(script) or cell < 1000000000: mixed
      refine ⟨M, ⟨_, rfl, _, rfl, a, _, rfl, .inl hA, _, _, rfl, rfl, _, rfl, ite2 (fun _ => iteT ?_) (fun _ => ⟨_, rfl, _, _, rfl, rfl, _, rfl, ite2 (fun _ => ?_) (fun _ => ⟨cell, rfl, rfl⟩)⟩)⟩, ?_⟩
      · refine ⟨_, rfl, _, rfl, _, _, rfl, rfl, .inl ⟨by decide, by decide⟩, _, _, rfl, rfl, _, _, rfl, rfl, _, _, rfl, rfl, .inr ⟨by decide, by decide⟩, _, rfl, _, rfl, _, _, rfl, rfl, .inl hk2, _, _, rfl, rfl, .inr ⟨by decide, by decide⟩, _, _, rfl, rfl, .inl ⟨_, rfl, _, _, rfl, rfl, (by show (0 : Int) < 1000000007; decide), ?_⟩⟩
        exact ⟨_, rfl, _, rfl, _, _, rfl, rfl, .inl ⟨by decide, by decide⟩, _, _, rfl, rfl, _, _, rfl, rfl, _, _, rfl, rfl, .inr ⟨by decide, by decide⟩, .inl ⟨_, rfl, _, _, rfl, rfl, (by show (0 : Int) < 18446744073709551557; decide), _, rfl, rfl⟩⟩
      · refine ⟨_, rfl, _, rfl, _, _, rfl, rfl, .inl ⟨by decide, by decide⟩, _, _, rfl, rfl, _, _, rfl, rfl, _, _, rfl, rfl, .inr ⟨by decide, by decide⟩, _, rfl, _, rfl, _, _, rfl, rfl, .inl hk2, _, _, rfl, rfl, .inr ⟨by decide, by decide⟩, _, _, rfl, rfl, .inl ⟨_, rfl, _, _, rfl, rfl, (by show (0 : Int) < 1000000007; decide), ?_⟩⟩
        exact ⟨_, rfl, _, rfl, _, _, rfl, rfl, .inl ⟨by decide, by decide⟩, _, _, rfl, rfl, _, _, rfl, rfl, _, _, rfl, rfl, .inr ⟨by decide, by decide⟩, .inl ⟨_, rfl, _, _, rfl, rfl, (by show (0 : Int) < 18446744073709551557; decide), _, rfl, rfl⟩⟩
      rintro σ' H' ⟨cell, rfl, rfl⟩
      -- rows.append(cell)
      refine ⟨_, rfl, .inl ⟨rfl, _, .inl (.inl eo)⟩, _, rfl, o, _, _, rfl, rfl, eo, ?_, rs ++ [cell], _, _, rfl, ?_, ?_, ?_⟩
      · rw [List.length_map]
        omega
      · exact fun b x e => by
          rw [upd_ne (ne_of_none e no)]
          exact s3 _ _ e
      · rw [upd_same, List.map_append]
        rfl
      · rw [List.length_append, el]
        rfl
    · rintro σ H3 ⟨rs, y3, y4, rfl, s3, eo, el⟩
      exact ⟨_, rfl, q H3 o rs s3 no eo (by omega)⟩
/-! ### _law_drawn -/
theorem scDrawn : FnScope ["row", "most", "chars", "text", "count", "k"] ["row", "most"] (defScope sDrawn) := ⟨rfl, rfl, rfl, by decide +kernel, rfl, by decide +kernel, by decide +kernel⟩
def spDrawn : Sp := fun vs H Q _ => ∃ (r : Int) (m : Nat), vs = [.int r, .int (m : Int)] ∧ m ≤ 1000 ∧ ∀ H' (l : List Nat), Same H H' → l.length ≤ m → Q (.str (S l)) H'
theorem ok_drawn {f : Addr} {fd : FuncData} (F : Fun K "_law_drawn" "_law_drawn" sDrawn f fd) (B : Bl mg) : FnOk P w K mg base CX0 1 f fd ["row", "most"] spDrawn := by
  refine F.ok scDrawn (fun vs H Q E h => ?_) (fun cdv A outer s H vs Q E hr h => ?_)
  · obtain ⟨r, m, rfl, _⟩ := h
    rfl
  · obtain ⟨r, m, rfl, hm, q⟩ := h
    refine ⟨_, pss_cons (ps_set (i := 2) scDrawn.nd rfl (.inl rfl) (pe_lst (pa_cons pe_str (pa_cons pe_str (pa_cons pe_str (pa_cons pe_str (pa_cons pe_str (pa_cons pe_str (pa_cons pe_str pa_nil)))))))))
      (pss_cons (ps_set (i := 3) scDrawn.nd rfl (.inl rfl) pe_str)
      (pss_cons (ps_set (i := 4) scDrawn.nd rfl (.inl rfl) (pe_op op_mod (pe_callTy call_int1 (by rfl) B.int (by decide +kernel) (pa_cons (pv 0) pa_nil)) (pe_op op_add (pv 1) pe_int)))
      (pss_cons (ps_for PassesOwn.never rfl (pi_range1 (by rfl) B.range (pa_cons (pv 4) pa_nil)) (pg_name (i := 5) scDrawn.nd rfl (.inl rfl))
        (pss_cons (ps_set (i := 3) scDrawn.nd rfl (.inl rfl) (pe_op op_add_str (pv 3) (pe_ix ix_list (pv 2) (pe_op op_mod (pe_callTy call_int1 (by rfl) B.int (by decide +kernel) (pa_cons (pe_op op_add (pe_op op_fdiv (pv 0) pe_int) (pe_op op_mul (pv 5) (pv 5))) pa_nil)) pe_int) (fun _ _ => rfl))))
        (pss_one (ps_set (i := 0) scDrawn.nd rfl (.inl rfl) (pe_op op_add (pe_op op_fdiv (pv 0) pe_int) (pe_op op_mul pe_int (pv 5)))))))
      (pss_one (ps_ret (pv 3)))))), ?_⟩
    refine ⟨(by show 7 ≤ sizeLine; decide), fun o no => ?_⟩
    refine ⟨_, rfl, .inl ⟨_, rfl, _, rfl, _, _, rfl, rfl, _, _, rfl, rfl, by omega, ?_⟩⟩
    have c0 : 0 ≤ r % ((m : Int) + 1) := Int.emod_nonneg _ (by omega)
    have c1 : r % ((m : Int) + 1) < (m : Int) + 1 := Int.emod_lt_of_pos _ (by omega)
    refine ⟨_, rfl, _, rfl, by omega, by omega, for_range (fun i σ H3 => ∃ (l : List Nat) (r' : Int) (y5 : Option V), σ = [some (.int r'), some (.int (m : Int)), some (.ref o), some (.str (S l)), some (.int (r % ((m : Int) + 1))), y5] ∧
        H3 = upd H o (.lst [V.str "a", V.str "\n", V.str " ", V.str "\n", V.str "x", V.str "{", V.str "}"]) ∧ l.length = i)
      ⟨[], r, none, rfl, rfl, rfl⟩ ?_ ?_⟩
    · rintro i σ H3 hi ⟨l, r', y5, rfl, rfl, el⟩
      have hi' : i < m + 1 := by omega
      have hz := sizeLine_eq
      obtain ⟨c, hc⟩ := signs_7 (k := (r' / 61 + (0 + (i : Int)) * (0 + (i : Int))) % 7) (Int.emod_nonneg _ (by decide)) (Int.emod_lt_of_pos _ (by decide))
      have hk2 : -(2 ^ 64) < 0 + (i : Int) ∧ 0 + (i : Int) < 2 ^ 64 := ⟨by omega, by omega⟩
      refine ⟨_, rfl, _, rfl, _, rfl, _, _, rfl, rfl, ⟨by decide, by decide⟩, _, rfl, _, rfl, _, _, rfl, rfl, .inl hk2, _, _, rfl, rfl, .inl ⟨_, rfl, _, _, rfl, rfl, (by show (0 : Int) < 7; decide), o, _, _, _, rfl, rfl, SqL.of upd_same, hc, ?_⟩⟩
      refine ⟨_, _, rfl, rfl, ?_, ?_⟩
      · rw [S_len, S_len, el]
        show i + 1 ≤ sizeLine
        omega
      rw [S_cat]
      refine ⟨_, rfl, _, _, rfl, rfl, ⟨by decide, by decide⟩, _, rfl, _, _, rfl, rfl, .inl ⟨by decide, by decide⟩, _, _, rfl, rfl, l ++ [c], _, _, rfl, rfl, ?_⟩
      rw [List.length_append, el]
      rfl
    · rintro σ H3 ⟨l, r', y5, rfl, rfl, el⟩
      exact ⟨_, rfl, q _ l (same_upd no) (by omega)⟩
/-! ### the law -/
theorem scLaw : FnScope ["script", "rows", "text", "line", "column", "offset", "place", "k", "start", "stop", "new", "told"] ["script"] (defScope sLaw) := ⟨rfl, rfl, rfl, by decide +kernel, rfl, by decide +kernel, by decide +kernel⟩
def spLaw (K : PySem.W.Frag) : Sp := fun vs H Q _ => ∃ (a : Addr) (ns : List Int), vs = [.ref a] ∧ SqL K H a (ns.map V.int) ∧ ns.length ≤ 63 ∧ ∀ H', Q (.bl true) H'
theorem ok_law {f fP fC fR fD : Addr} {fd fdP fdC fdR fdD : FuncData} (F : Fun K "law" "law" sLaw f fd) (B : Bl mg)
    (FP : Fun K "place_of" "place_of" sPlace fP fdP) (bP : Binds K fdP ["text", "offset"] []) (gP : mg "place_of" = some (.ref fP))
    (FC : Fun K "changed" "changed" sChanged fC fdC) (bC : Binds K fdC ["text", "start", "stop", "new"] []) (gC : mg "changed" = some (.ref fC))
    (FR : Fun K "_law_rows" "_law_rows" sRows fR fdR) (bR : Binds K fdR ["script", "count"] []) (gR : mg "_law_rows" = some (.ref fR))
    (FD : Fun K "_law_drawn" "_law_drawn" sDrawn fD fdD) (bD : Binds K fdD ["row", "most"] []) (gD : mg "_law_drawn" = some (.ref fD)) :
    FnOk P w K mg base CX0 2 f fd ["script"] (spLaw K) := by
  have GP : FnOk P w K mg base CX0 1 fP fdP ["text", "offset"] spPlace := ok_place FP
  have GC : FnOk P w K mg base CX0 1 fC fdC ["text", "start", "stop", "new"] spChanged := ok_changed FC
  have GR : FnOk P w K mg base CX0 1 fR fdR ["script", "count"] (spRows K) := ok_rows FR B
  have GD : FnOk P w K mg base CX0 1 fD fdD ["row", "most"] spDrawn := ok_drawn FD B
  refine F.ok scLaw (fun vs H Q E h => ?_) (fun cdv A outer s H vs Q E hr h => ?_)
  · obtain ⟨a, ns, rfl, _⟩ := h
    rfl
  · obtain ⟨a, ns, rfl, hS, hlen, q⟩ := h
    refine ⟨_, pss_cons (ps_set (i := 1) scLaw.nd rfl (.inl rfl) (pe_call GR hr (by rfl) gR FR.kp bR .nil pass0 (pa_cons (pv 0) (pa_cons pe_int pa_nil))))
      (pss_cons (ps_set (i := 2) scLaw.nd rfl (.inl rfl) (pe_call GD hr (by rfl) gD FD.kp bD .nil pass0 (pa_cons (pe_ix ix_list (pv 1) pe_int (fun _ _ => rfl)) (pa_cons pe_int pa_nil))))
      (pss_cons (ps_set (i := 3) scLaw.nd rfl (.inl rfl) pe_int)
      (pss_cons (ps_set (i := 4) scLaw.nd rfl (.inl rfl) pe_int)
      (pss_cons (ps_for PassesOwn.never rfl (pi_range1 (by rfl) B.range (pa_cons (pe_op op_add (pe_callB call_len_str (by rfl) B.len PySem.boot_len (pa_cons (pv 2) pa_nil)) pe_int) pa_nil)) (pg_name (i := 5) scLaw.nd rfl (.inl rfl))
        (pss_cons (ps_set (i := 6) scLaw.nd rfl (.inl rfl) (pe_call GP hr (by rfl) gP FP.kp bP .nil pass0 (pa_cons (pv 2) (pa_cons (pv 5) pa_nil))))
        (pss_cons (ps_if (PW.pt (pw_or (pt_not (pt_val (pe_callB call_isi (by rfl) B.isi (by decide +kernel) (pa_cons (pv 6) (pa_cons (pe_bltn (v := .ty "tuple") (by rfl) B.tup (by decide +kernel) rfl) pa_nil)))))
            (pw_or1 (pt_cmpR (op_neD hr.units) (pv 6) (pe_tup (pa_cons (pv 3) (pa_cons (pv 4) pa_nil))) (nomark _))))) (pss_one (ps_ret pe_bl)) pss_nil)
        (pss_cons (ps_set (i := 4) scLaw.nd rfl (.inl rfl) (pe_op op_add (pv 4) pe_int))
        (pss_one (ps_if (PW.pt (pw_and (pt_cmpR op_lt (pv 5) (pe_callB call_len_str (by rfl) B.len PySem.boot_len (pa_cons (pv 2) pa_nil)) (nomark _)) (pw_and1 (pt_cmpR op_eq (pe_ix ix_str (pv 2) (pv 5) (fun _ _ => rfl)) pe_str (nomark _)))))
          (pss_cons (ps_set (i := 3) scLaw.nd rfl (.inl rfl) (pe_op op_add (pv 3) pe_int)) (pss_one (ps_set (i := 4) scLaw.nd rfl (.inl rfl) pe_int))) pss_nil))))))
      (pss_cons (ps_for PassesOwn.never rfl (pi_range2 (by rfl) B.range (pa_cons pe_int (pa_cons pe_int pa_nil))) (pg_name (i := 7) scLaw.nd rfl (.inl rfl))
        (pss_cons (ps_set (i := 8) scLaw.nd rfl (.inl rfl) (pe_op op_mod (pe_callTy call_int1 (by rfl) B.int (by decide +kernel) (pa_cons (pe_ix ix_list (pv 1) (pv 7) (fun _ _ => rfl)) pa_nil)) (pe_op op_add (pe_callB call_len_str (by rfl) B.len PySem.boot_len (pa_cons (pv 2) pa_nil)) pe_int)))
        (pss_cons (ps_set (i := 9) scLaw.nd rfl (.inl rfl) (pe_op op_add (pv 8) (pe_op op_mod (pe_callTy call_int1 (by rfl) B.int (by decide +kernel) (pa_cons (pe_op op_fdiv (pe_ix ix_list (pv 1) (pv 7) (fun _ _ => rfl)) pe_int) pa_nil))
            (pe_op op_sub (pe_op op_add (pe_callB call_len_str (by rfl) B.len PySem.boot_len (pa_cons (pv 2) pa_nil)) pe_int) (pv 8)))))
        (pss_cons (ps_set (i := 10) scLaw.nd rfl (.inl rfl) (pe_call GD hr (by rfl) gD FD.kp bD .nil pass0 (pa_cons (pe_op op_fdiv (pe_ix ix_list (pv 1) (pv 7) (fun _ _ => rfl)) pe_int) (pa_cons pe_int pa_nil))))
        (pss_cons (ps_set (i := 11) scLaw.nd rfl (.inl rfl) (pe_call GC hr (by rfl) gC FC.kp bC .nil pass0 (pa_cons (pv 2) (pa_cons (pv 8) (pa_cons (pv 9) (pa_cons (pv 10) pa_nil))))))
        (pss_one (ps_if (PW.pt (pw_or (pt_cmpR op_ne (pe_slice sl_str (pv 11) po_none (po_some (pv 8))) (pe_slice sl_str (pv 2) po_none (po_some (pv 8))) (nomark _))
            (pw_or (pt_cmpR op_ne (pe_slice sl_str (pv 11) (po_some (pv 8)) (po_some (pe_op op_add (pv 8) (pe_callB call_len_str (by rfl) B.len PySem.boot_len (pa_cons (pv 10) pa_nil))))) (pv 10) (nomark _))
            (pw_or1 (pt_cmpR op_ne (pe_slice sl_str (pv 11) (po_some (pe_op op_add (pv 8) (pe_callB call_len_str (by rfl) B.len PySem.boot_len (pa_cons (pv 10) pa_nil)))) po_none) (pe_slice sl_str (pv 2) (po_some (pv 9)) po_none) (nomark _))))))
          (pss_one (ps_ret pe_bl)) pss_nil)))))))
      (pss_one (ps_ret pe_bl))))))), ?_⟩
    have hz := sizeLine_eq
    -- rows, text
    refine ⟨_, rfl, a, ns, 6, rfl, hS, hlen, by decide, fun H1 o rs s1 no eo el => ?_⟩
    have r0 : atI (rs.map V.int) 0 = some (V.int (rs.getD 0 0)) := at_of (j := 0) rfl (by
      rw [List.getElem?_map, List.getElem?_eq_getElem (by omega), List.getD_eq_getElem?_getD, List.getElem?_eq_getElem (by omega)]
      rfl)
    refine ⟨_, rfl, o, _, _, _, rfl, rfl, SqL.of eo, r0, _, 60, rfl, by decide, fun H2 l s2 hl => ?_⟩
    have eo2 : H2 o = some (.lst (rs.map V.int)) := s2 _ _ eo
    have hs : (S l).length ≤ sizeLine := by
      rw [S_len]
      omega
    have hL : (S l).length = l.length := S_len l
    refine ⟨_, rfl, S l, rfl, hs, _, _, rfl, rfl, _, rfl, by omega, by omega, for_range (fun i σ H3 => ∃ (ln cl : Int) (y5 y6 : Option V), σ = [some (.ref a), some (.ref o), some (.str (S l)), some (.int ln), some (.int cl), y5, y6, none, none, none, none, none] ∧
        Same H2 H3 ∧ (i ≤ l.length → ln = ((l.take i).count 10 : Nat) + 1 ∧ cl = col (l.take i)))
      ⟨1, 1, none, none, rfl, Same.refl _, fun _ => ⟨rfl, rfl⟩⟩ ?_ ?_⟩
    · rintro i σ H3 hi ⟨ln, cl, y5, y6, rfl, s3, hv⟩
      have hi' : i ≤ l.length := by omega
      obtain ⟨rfl, rfl⟩ := hv hi'
      refine ⟨_, rfl, _, rfl, l, i, (by rw [Int.zero_add]; rfl), hi', by omega, fun H4 p s4 np ep => ?_⟩
      have hne : ∀ x y : Int, (!PyData.eqv (.tuple [.int x, .int y]) (.tuple [.int x, .int y])) = false := fun x y => by
        rw [SeqAt.eqv_refl _ rfl]
        rfl
      refine ⟨_, rfl, _, _, _, _, true, rfl, .ty _, .base (.tup ep), kit_ty (by decide +kernel), _, rfl, iteF ?_⟩
      refine ⟨_, rfl, _, rfl, _, rfl, (by show 2 ≤ sizeLine; decide), fun p2 np2 => ?_⟩
      have npp : p ≠ p2 := ne_of_none ep np2
      refine ⟨.tuple [.int _, .int _], .tuple [.int _, .int _], .tup (SqT.of (by rw [upd_ne npp]; exact ep)) (.cons (.int _) (.cons (.int _) .nil)), .tup (SqT.of upd_same) (.cons (.int _) (.cons (.int _) .nil)), rfl, rfl, _, rfl, ?_⟩
      rw [hne]
      refine iteF ?_
      refine ⟨_, rfl, _, _, rfl, rfl, ?_⟩
      have s5 : Same H2 (upd H4 p2 (.tup [.int (((l.take i).count 10 : Nat) + 1 : Int), .int (col (l.take i))])) := (s3.trans s4).trans (same_upd np2)
      refine ⟨_, rfl, _, rfl, S l, rfl, hs, _, _, rfl, rfl, _, rfl, ite2 (fun e => ?_) (fun e => iteF ?_)⟩
      · have hlt : i < l.length := by
          have := of_decide_eq_true e
          omega
        have hg : l[i]? = some l[i] := List.getElem?_eq_getElem hlt
        have et : l.take (i + 1) = l.take i ++ [l[i]] := by
          rw [List.take_add_one, hg]
          rfl
        refine ⟨_, rfl, _, rfl, S l, _, l[i], rfl, rfl, hs, at_ofN (j := i) (by omega) hg, rfl, _, rfl, ite2 (fun e2 => ?_) (fun e2 => ?_)⟩
        · have e3 : l[i] = 10 := by
            have := V.str.inj (of_decide_eq_true e2)
            rw [nl] at this
            have := S_inj this
            injection this
          refine ⟨_, rfl, _, _, rfl, rfl, _, _, _, _, rfl, s5, fun _ => ⟨?_, ?_⟩⟩
          · rw [et, List.count_append, e3]
            show _ = (((l.take i).count 10 + 1 : Nat) : Int) + 1
            omega
          · rw [et, col_snoc, if_pos e3]
        · have e3 : ¬ l[i] = 10 := fun z => e2 (decide_eq_true (by rw [nl, z]))
          refine ⟨_, _, _, _, rfl, s5, fun _ => ⟨?_, ?_⟩⟩
          · rw [et, List.count_append, List.count_cons_of_ne (by simpa using e3)]
            show _ = (((l.take i).count 10 + 0 : Nat) : Int) + 1
            omega
          · rw [et, col_snoc, if_neg e3]
      · have hge : ¬ i < l.length := fun z => e (decide_eq_true (by omega))
        exact ⟨_, _, _, _, rfl, s5, fun z => by omega⟩
    · rintro σ H3 ⟨ln, cl, y5, y6, rfl, s3, _⟩
      refine ⟨1, 4, rfl, ⟨by decide, by decide, by decide, by decide⟩, for_range (lo := 1) (n := 3) (fun i σ H4 => ∃ y7 y8 y9 y10 y11 : Option V, σ = [some (.ref a), some (.ref o), some (.str (S l)), some (.int ln), some (.int cl), y5, y6, y7, y8, y9, y10, y11] ∧ Same H2 H4)
        ⟨none, none, none, none, none, rfl, s3⟩ ?_ ?_⟩
      · rintro i σ H4 hi ⟨y7, y8, y9, y10, y11, rfl, s4⟩
        have hk : i + 1 < rs.length := by omega
        have rk : atI (rs.map V.int) (1 + (i : Int)) = some (V.int rs[i + 1]) := at_of (j := i + 1) (by omega) (by
          rw [List.getElem?_map, List.getElem?_eq_getElem hk]
          rfl)
        have hO : SqL K H4 o (rs.map V.int) := SqL.of (s4 _ _ eo2)
        have p0 : 0 ≤ rs[i + 1] % (((S l).length : Nat) + 1 : Int) := Int.emod_nonneg _ (by omega)
        have p1 : rs[i + 1] % (((S l).length : Nat) + 1 : Int) < ((S l).length : Nat) + 1 := Int.emod_lt_of_pos _ (by omega)
        obtain ⟨u, eu⟩ : ∃ u : Nat, rs[i + 1] % (((S l).length : Nat) + 1 : Int) = (u : Int) := ⟨_, (Int.toNat_of_nonneg p0).symm⟩
        rw [eu] at p1
        have q0 : 0 ≤ rs[i + 1] / 100 % (((S l).length : Nat) + 1 - u : Int) := Int.emod_nonneg _ (by omega)
        have q1 : rs[i + 1] / 100 % (((S l).length : Nat) + 1 - u : Int) < ((S l).length : Nat) + 1 - u := Int.emod_lt_of_pos _ (by omega)
        have v0 : 0 ≤ (u : Int) + rs[i + 1] / 100 % (((S l).length : Nat) + 1 - u : Int) := by omega
        obtain ⟨v, ev⟩ : ∃ v : Nat, (u : Int) + rs[i + 1] / 100 % (((S l).length : Nat) + 1 - u : Int) = (v : Int) := Int.eq_ofNat_of_zero_le v0
        have huv : u ≤ v := by omega
        have hvl : v ≤ l.length := by omega
        refine ⟨_, rfl, _, rfl, o, _, _, _, rfl, rfl, hO, rk, .inl ⟨_, rfl, _, rfl, S l, rfl, hs, _, _, rfl, rfl, _, _, rfl, rfl, (by omega), ?_⟩⟩
        dsimp only
        rw [eu]
        refine ⟨_, rfl, _, rfl, _, rfl, o, _, _, _, rfl, rfl, hO, rk, _, _, rfl, rfl, ⟨by decide, by decide⟩, .inl ⟨_, rfl, _, rfl, S l, rfl, hs, _, _, rfl, rfl, _, rfl, _, _, rfl, rfl, _, _, rfl, rfl, (by omega), _, _, rfl, rfl, ?_⟩⟩
        dsimp only
        rw [ev]
        refine ⟨_, rfl, _, rfl, o, _, _, _, rfl, rfl, hO, rk, _, _, rfl, rfl, ⟨by decide, by decide⟩, _, 9, rfl, by decide, fun H5 n s5 hn => ?_⟩
        refine ⟨_, rfl, _, rfl, _, rfl, _, rfl, l, n, u, v, rfl, by omega, by omega, ?_⟩
        have htl : (l.take u ++ n ++ l.drop v).length ≤ 2000 := by
          rw [List.length_append, List.length_append, List.length_take, List.length_drop]
          omega
        have ht : (S (l.take u ++ n ++ l.drop v)).length ≤ sizeLine := by
          rw [S_len]
          omega
        have hu : (l.take u).length = u := by
          rw [List.length_take]
          omega
        have hN : (S n).length ≤ sizeLine := by
          rw [S_len]
          omega
        have eN : (u : Int) + ((S n).length : Nat) = ((u + n.length : Nat) : Int) := by
          rw [S_len]
          omega
        refine ⟨_, rfl, _, rfl, _, rfl, _, rfl, ht, _, rfl, _, rfl, _, rfl, S l, rfl, hs, rfl, _, rfl, iteNS ?_ ?_⟩
        · rw [cut_to, cut_to, List.append_assoc, List.take_append_of_le_length (by omega), List.take_of_length_le (by omega)]
        refine ⟨_, rfl, _, rfl, _, rfl, _, rfl, _, rfl, _, rfl, hN, _, _, rfl, rfl, _, rfl, _, rfl, ht, _, rfl, rfl, _, rfl, iteNS ?_ ?_⟩
        · rw [eN, cut_mid _ _ _ (by omega) (by rw [List.length_append, List.length_append, hu]; omega), List.append_assoc, List.drop_append_of_le_length (by omega), List.drop_eq_nil_of_le (by omega), List.nil_append, Nat.add_sub_cancel_left, List.take_append_of_le_length (Nat.le_refl _), List.take_length]
        refine ⟨_, rfl, _, rfl, _, rfl, _, rfl, hN, _, _, rfl, rfl, _, rfl, _, rfl, ht, _, rfl, _, rfl, _, rfl, S l, rfl, hs, rfl, _, rfl, iteNS ?_ ?_⟩
        · rw [eN, cut_from, cut_from, List.drop_append_of_le_length (by rw [List.length_append, hu]; omega), List.drop_eq_nil_of_le (by rw [List.length_append, hu]; omega), List.nil_append]
        exact ⟨_, _, _, _, _, rfl, s4.trans s5⟩
      · rintro σ H4 ⟨y7, y8, y9, y10, y11, rfl, s4⟩
        exact q _
end
/-! ### what the top has written -/
theorem all_mk {l : PySem.W.OpenLaw} {w : World} {K : PySem.W.Frag} {h : Heap} {mg : Str → Option Value} {fa f1 f2 f3 f4 f5 : Addr} (X : K.In h) (G : h.Ns mainGlobals mg) (hfa : mg "law" = some (.ref fa))
    {od1 an1 od2 an2 od3 an3 od4 an4 od5 an5 : Option Addr} {sl1 sl2 sl3 sl4 sl5 : Array (Option Value)} {oc1 kV1 dc1 pm1 cd1 ct1 oc2 kV2 dc2 pm2 cd2 ct2 oc3 kV3 dc3 pm3 cd3 ct3 oc4 kV4 dc4 pm4 cd4 ct4 oc5 kV5 dc5 pm5 cd5 ct5 : Value}
    (a1 : PySem.W.nsIn K mainGlobals "place_of" = some (some (.ref f1))) (l1 : K.lookup f1 = some ⟨oc1, od1, .func (PySem.W.fnOf "place_of" "place_of" (defArgs sPlace) (defBody sPlace) (defScope sPlace) .none kV1 dc1 pm1 an1 cd1 ct1), sl1⟩) (c1 : PySem.W.codeIn K cd1 "place_of" = true) (k1 : PySem.W.keepIn K (.ref f1) = true)
    (a2 : PySem.W.nsIn K mainGlobals "changed" = some (some (.ref f2))) (l2 : K.lookup f2 = some ⟨oc2, od2, .func (PySem.W.fnOf "changed" "changed" (defArgs sChanged) (defBody sChanged) (defScope sChanged) .none kV2 dc2 pm2 an2 cd2 ct2), sl2⟩) (c2 : PySem.W.codeIn K cd2 "changed" = true) (k2 : PySem.W.keepIn K (.ref f2) = true)
    (a3 : PySem.W.nsIn K mainGlobals "_law_rows" = some (some (.ref f3))) (l3 : K.lookup f3 = some ⟨oc3, od3, .func (PySem.W.fnOf "_law_rows" "_law_rows" (defArgs sRows) (defBody sRows) (defScope sRows) .none kV3 dc3 pm3 an3 cd3 ct3), sl3⟩) (c3 : PySem.W.codeIn K cd3 "_law_rows" = true) (k3 : PySem.W.keepIn K (.ref f3) = true)
    (a4 : PySem.W.nsIn K mainGlobals "_law_drawn" = some (some (.ref f4))) (l4 : K.lookup f4 = some ⟨oc4, od4, .func (PySem.W.fnOf "_law_drawn" "_law_drawn" (defArgs sDrawn) (defBody sDrawn) (defScope sDrawn) .none kV4 dc4 pm4 an4 cd4 ct4), sl4⟩) (c4 : PySem.W.codeIn K cd4 "_law_drawn" = true) (k4 : PySem.W.keepIn K (.ref f4) = true)
    (a5 : PySem.W.nsIn K mainGlobals "law" = some (some (.ref f5))) (l5 : K.lookup f5 = some ⟨oc5, od5, .func (PySem.W.fnOf "law" "law" (defArgs sLaw) (defBody sLaw) (defScope sLaw) .none kV5 dc5 pm5 an5 cd5 ct5), sl5⟩) (c5 : PySem.W.codeIn K cd5 "law" = true) (k5 : PySem.W.keepIn K (.ref f5) = true)
    (z1 : PySem.W.nsIn K mainGlobals "range" = some none) (z2 : PySem.W.nsIn K mainGlobals "len" = some none) (z3 : PySem.W.nsIn K mainGlobals "int" = some none) (z4 : PySem.W.nsIn K mainGlobals "isinstance" = some none) (z5 : PySem.W.nsIn K mainGlobals "tuple" = some none) :
    ∃ fd : FuncData, (∀ (s : Shared) (v : Value), BindsTo s fd ⟨[v], []⟩ [("script", v)]) ∧ ∀ base : Heap, K.In base → base.Ns mainGlobals mg → FnOk l.prog w K mg base CX0 2 fa fd ["script"] (spLaw K) := by
  have e := hfa.symm.trans (PySem.W.mg_of X G a5)
  cases e
  have B : Bl mg := ⟨PySem.W.mg_none_of X G z1, PySem.W.mg_none_of X G z2, PySem.W.mg_none_of X G z3, PySem.W.mg_none_of X G z4, PySem.W.mg_none_of X G z5⟩
  have F1 := fun_mk (st := sPlace) l1 c1 k1
  have F2 := fun_mk (st := sChanged) l2 c2 k2
  have F3 := fun_mk (st := sRows) l3 c3 k3
  have F4 := fun_mk (st := sDrawn) l4 c4 k4
  have F5 := fun_mk (st := sLaw) l5 c5 k5
  have b1 := F1.binds (ps := ["text", "offset"]) fun _ _ _ _ _ _ us hl => match us, hl with | [_, _], _ => rfl
  have b2 := F2.binds (ps := ["text", "start", "stop", "new"]) fun _ _ _ _ _ _ us hl => match us, hl with | [_, _, _, _], _ => rfl
  have b3 := F3.binds (ps := ["script", "count"]) fun _ _ _ _ _ _ us hl => match us, hl with | [_, _], _ => rfl
  have b4 := F4.binds (ps := ["row", "most"]) fun _ _ _ _ _ _ us hl => match us, hl with | [_, _], _ => rfl
  exact ⟨PySem.W.fnOf "law" "law" (defArgs sLaw) (defBody sLaw) (defScope sLaw) .none kV5 dc5 pm5 an5 cd5 ct5, fun s v => .of_eq rfl, fun base _ _ =>
    ok_law F5 B F1 b1 (PySem.W.mg_of X G a1) F2 b2 (PySem.W.mg_of X G a2) F3 b3 (PySem.W.mg_of X G a3) F4 b4 (PySem.W.mg_of X G a4)⟩
end My
open PySem PySem.W PyProof.Rows
set_option maxRecDepth 100000 in
set_option maxHeartbeats 0 in
theorem PySem.Challenge.cw_livequill_k12_places_and_changes_holds : PySem.Challenge.rw_livequill_k12_places_and_changes.Holds := by
  w_on; o_law; k_head; (case hw => w_witness2)
  k_fill
  refine L2.walk_of (l := PySem.Challenge.rw_livequill_k12_places_and_changes) (n := 63) (k := 2) (x := "script") (CX := fun _ => L2.CX0) (sp := fun w => My.spLaw _) rfl (by decide) rfl ⟨rfl, by decide, by decide⟩ (fun w h Y => PySem.W.kIn_of Y) ?F (fun _ _ a ns hl _ hS => ⟨a, ns, rfl, hS, hl, fun _ => rfl⟩) (fun _ _ _ _ _ h => h)
  case F =>
    intro w mg fa h KX G hmg
    refine' My.all_mk KX G hmg ?a1 ?l1 ?c1 ?k1 ?a2 ?l2 ?c2 ?k2 ?a3 ?l3 ?c3 ?k3 ?a4 ?l4 ?c4 ?k4 ?a5 ?l5 ?c5 ?k5 ?z1 ?z2 ?z3 ?z4 ?z5
    (case a1 => k_is); (case l1 => k_is); (case c1 => k_is); (case k1 => k_is)
    (case a2 => k_is); (case l2 => k_is); (case c2 => k_is); (case k2 => k_is)
    (case a3 => k_is); (case l3 => k_is); (case c3 => k_is); (case k3 => k_is)
    (case a4 => k_is); (case l4 => k_is); (case c4 => k_is); (case k4 => k_is)
    (case a5 => k_is); (case l5 => k_is); (case c5 => k_is); (case k5 => k_is)
    (case z1 => k_is); (case z2 => k_is); (case z3 => k_is); (case z4 => k_is); (case z5 => k_is)
