/- Texts in one: HeE, He2, He3, HeO, Sr1. -/
import Derived.Test.YtfpaichdkddglabGreatDoorPk9
import Derived.Test.YtfpaichdkddglabGreatDoorPk6
import Derived.Laws.StructEq
import Derived.BigQuiet
import Derived.Deep.RegionHeld3
namespace Go.Proofs.YtfpaichdkddglabGreatDoor.He
open Go.RowKit Go.Proofs.YtfpaichdkddglabGreatDoor.Mem Go.Proofs.YtfpaichdkddglabGreatDoor.Laws Go.Proofs.YtfpaichdkddglabGreatDoor.Bytes Go.Proofs.YtfpaichdkddglabGreatDoor.Sha Go.Proofs.YtfpaichdkddglabGreatDoor.Tr
set_option linter.unusedVariables false
set_option linter.unusedSimpArgs false
theorem fieldsH : Tryz.prog.underlying 35 = some (.struct (Tryz.prog.fieldsOf 35)) := by kernel_rfl
theorem heldH : Tryz.prog.stoodInHeld 35 = false := by kernel_rfl
theorem guardH : Tryz.prog.eqGuardType Tryz.prog.depth 35 = false := by kernel_rfl
theorem eqHrun (w : World) (a b : Hd) :
  (Op.equalIn 10000 35 (.agg #[.int .i64 a.n, .string a.r]) (.agg #[.int .i64 b.n, .string b.r])).run Tryz.prog w = .ok (eqH a b) w := by
 rw [run_equalIn_struct w 9999 _ _ _ fieldsH heldH]
 simp [Program.fieldsOf, Tryz.underlying35, Op.eqFields, go_sem, run_underlying Tryz.underlying3, run_underlying Tryz.underlying9, Tryz.underlying3, Tryz.underlying9, part]
 unfold eqH
 repeat' split
 all_goals simp_all
theorem eqlH (w : World) (a b : Hd) : (binOp .eql 35 (.agg #[.int .i64 a.n, .string a.r]) (.agg #[.int .i64 b.n, .string b.r])).run Tryz.prog w = .ok (.bool (eqH a b)) w := by
 rw [run_eql_struct, eqHrun]
 rfl
theorem neqH (w : World) (a b : Hd) : (binOp .neq 35 (.agg #[.int .i64 a.n, .string a.r]) (.agg #[.int .i64 b.n, .string b.r])).run Tryz.prog w = .ok (.bool (!eqH a b)) w := by
 rw [run_neq_struct, eqHrun]
 rfl
theorem grdH (w : World) (op : BinOp) (x y : Operand) (xs ys : Array Value) : (eqGuard op 35 x y (.agg xs) (.agg ys)).run Tryz.prog w = .ok () w := run_eqGuard_agg w op 35 x y xs ys guardH
theorem eqH_iff (a b : Hd) : eqH a b = true ↔ a = b := by
 unfold eqH
 simp only [Bool.and_eq_true, beq_iff_eq, ByteArray.toList_eq]
 constructor
 ·
  rintro ⟨h1, h2⟩
  exact Hd.ext' h1 (by apply ByteArray.ext; apply Array.ext'; exact h2)
 ·
  rintro rfl
  exact ⟨rfl, rfl⟩
theorem keepH {W W' : World} {p : Addr} {x : Value} (h : W.cell? p = some x) (b : Below W.heap.size W W') : W'.cell? p = some x := by
 rw [b.cell (World.block_lt_of_cell? W p h)]; exact h
set_option maxRecDepth 1000000 in
set_option maxHeartbeats 1000000 in
theorem to_head (w : World) (h : Hd) :
  Calls Tryz.prog 13 #[.agg #[.int .i64 h.n, .string h.r]] w fun e w' => e = .returned (.agg #[.int .i64 h.n, .string h.r]) ∧ Below w.heap.size w w' := by
 have HB : Hid (Below w.heap.size w (((w.alloc (.cells #[.int .i64 h.n, .string h.r] 24)).alloc (.cells #[.int .i64 0, .string ⟨#[]⟩] 35)).alloc (.cells #[.int .i64 h.n, .string h.r] 35))) := (((Below.refl _ _).alloc (Nat.le_refl _) _).alloc (by simp) _).alloc (by simp; omega) _
 have HR1 : Hid ((((w.alloc (.cells #[.int .i64 h.n, .string h.r] 24)).alloc (.cells #[.int .i64 0, .string ⟨#[]⟩] 35)).alloc (.cells #[.int .i64 h.n, .string h.r] 35)).heap[w.heap.size + 1]? = some (.cells #[.int .i64 0, .string ⟨#[]⟩] 35 (0, 0))) := by
  show _ = _
  rw [heap_alloc_old _ _ (by simp)]
  have := heap_alloc_new (w.alloc (.cells #[.int .i64 h.n, .string h.r] 24)) (.cells #[.int .i64 0, .string ⟨#[]⟩] 35)
  simpa using this
 have HR2 : Hid ((((w.alloc (.cells #[.int .i64 h.n, .string h.r] 24)).alloc (.cells #[.int .i64 0, .string ⟨#[]⟩] 35)).alloc (.cells #[.int .i64 h.n, .string h.r] 35)).heap[w.heap.size + 1 + 1]? = some (.cells (hc h) 35 (0, 0))) := by
  show _ = _
  have := heap_alloc_new ((w.alloc (.cells #[.int .i64 h.n, .string h.r] 24)).alloc (.cells #[.int .i64 0, .string ⟨#[]⟩] 35)) (.cells #[.int .i64 h.n, .string h.r] 35)
  simpa [hc] using this
 go_enter Tryz.func13, Tryz.ntmps13
 go_wp2_with (first | (refine wpList_load_row rfl 35 _ rfl (w.heap.size + 1 + 1) rfl 35 (hc h) (0, 0) _ HR2.out Tryz.underlying35 rfl (sizeH h) ?_) | (refine wpList_store_row rfl 35 _ _ rfl (w.heap.size + 1) (hc h) rfl rfl 35 _ HR1.out (sizeH h) rfl (oneH h) ?_))
 exact bodyPost_ret (v := .agg (hc h)) (results_cell_row rfl _ _ (w.heap.size + 1) 35 _ (0, 0) _ rfl (setRow_heap _ _ _ _ _ (0, 0) HR1.out) Tryz.underlying35 rfl (sizeH h)) rfl ⟨rfl, below_setRow HB.out (by omega) _⟩
set_option maxRecDepth 1000000 in
set_option maxHeartbeats 1000000 in
theorem sz_head (w : World) (n : Hd) (left : Int) (hp : n.r.size ≤ 9223372036854775807) (h0 : 0 ≤ left) (h1 : left ≤ 1048576) :
  Calls Tryz.prog 8 #[.agg #[.int .i64 n.n, .string n.r], .int .i64 left] w fun e w' => e = .returned (.int .i64 (if left - n.r.size < 0 then -1 else left - n.r.size)) ∧ Below w.heap.size w w' := by
 have HB : Hid (Below w.heap.size w (w.alloc (.cells #[.int .i64 n.n, .string n.r] 24))) := (Below.refl _ _).alloc (Nat.le_refl _) _
 by_cases hb : left - (n.r.size : Int) < 0
 ·
  have HN : Hid ((if left - n.r.size < 0 then -1 else left - n.r.size) = (-1 : Int)) := by show _ = _; rw [if_pos hb]
  go_enter Tryz.func8, Tryz.ntmps8
  go_wp2
  go_ret
  exact ⟨by first | rfl | (rw [HN.out]; rfl), HB.out⟩
 ·
  have HN : Hid ((if left - n.r.size < 0 then -1 else left - n.r.size) = left - n.r.size) := by show _ = _; rw [if_neg hb]
  go_enter Tryz.func8, Tryz.ntmps8
  go_wp2
  go_ret
  exact ⟨by first | rfl | (rw [HN.out]; rfl), HB.out⟩
set_option maxRecDepth 1000000 in
set_option maxHeartbeats 1000000 in
theorem sz_heads (w : World) (v : Value) (l : List Hd) (left : Nat) (h : Sh w v l) (hz : ∀ n ∈ l, n.r.size ≤ 9223372036854775807) (hx : l.length ≤ 9223372036854775807) (hlf : left ≤ 1048576) :
  Calls Tryz.prog 7 #[v, .int .i64 (left : Int)] w fun e w' => (∃ r : Int, e = .returned (.int .i64 r) ∧ r ≤ left ∧ (r < 0 ∨ (0 ≤ r ∧ l.length ≤ left ∧ ∀ n ∈ l, n.r.size ≤ left))) ∧ Below w.heap.size w w' := by
 have HS : Hid (Sh w v l) := h
 have HZ : Hid (∀ n ∈ l, n.r.size ≤ 9223372036854775807) := hz
 obtain ⟨hcl, ao, cap, rfl, hcap, hnn, _⟩ := h
 clear hz
 by_cases hbig : (left : Int) - l.length < 0
 ·
  go_enter Tryz.func7, Tryz.ntmps7
  go_wp2
  go_ret
  exact ⟨⟨-1, rfl, by omega, .inl (by omega)⟩, Below.refl _ _⟩
 ·
  go_enter Tryz.func7, Tryz.ntmps7
  go_wp2
  go_loopw [1, 5] (fun lf i wr => ∃ (k r : Nat), k ≤ l.length ∧ i = .int .i64 (k : Int) ∧ lf = .int .i64 (r : Int) ∧ r ≤ left ∧ Hid (∀ n ∈ l.take k, n.r.size ≤ left) ∧ Below w.heap.size w wr) (fun _ i _ => l.length - (intOf i).toNat)
  case atStart => exact ⟨0, left - l.length, Nat.zero_le _, rfl, by go_num, by omega, by intro n hn; simp at hn, Below.refl _ _⟩
  case round =>
   obtain ⟨k, r, hk, rfl, rfl, hr, HA, hB⟩ := hrel
   by_cases hlt : k < l.length
   ·
    obtain ⟨n, hn⟩ : ∃ n, l[k]? = some n := ⟨l[k], by simp [hlt]⟩
    obtain ⟨b, off, cap', he, _, c0, c1⟩ := Sh.at (HS.out.later hB) hn
    simp only [Value.slice.injEq] at he
    obtain ⟨rfl, _, rfl⟩ := he
    have hnz := HZ.out n (List.mem_of_getElem? hn)
    have q : ∀ W, _ := fun W => sz_head W n (r : Int) hnz (by omega) (by omega)
    have HT : Hid (l.take (k + 1) = l.take k ++ [n]) := by show _ = _; rw [List.take_add_one, hn]; rfl
    clear hn hnz
    by_cases hc : (r : Int) - n.r.size < 0
    ·
     simp only [if_pos hc] at q
     go_wp2_with (go_at_call 8; refine (q _).mono ?_; rintro e W1 ⟨rfl, b1⟩)
     go_ret
     exact ⟨⟨-1, rfl, by omega, .inl (by omega)⟩, hB.trans (b1.mono hB.size)⟩
    ·
     simp only [if_neg hc] at q
     obtain ⟨r2, hr2⟩ : ∃ r2 : Nat, (r : Int) - n.r.size = (r2 : Int) := ⟨((r : Int) - n.r.size).toNat, by omega⟩
     simp only [hr2] at q
     have hr3 : r2 ≤ left := by omega
     have HN : Hid (∀ x ∈ l.take (k + 1), x.r.size ≤ left) := by
      intro x hx
      rw [HT.out] at hx
      rcases List.mem_append.1 hx with h | h
      ·
       exact HA.out x h
      ·
       simp at h
       subst h
       omega
     clear hc hr2
     go_wp2_with (go_at_call 8; refine (q _).mono ?_; rintro e W1 ⟨rfl, b1⟩)
     go_roundw
     case rel => exact ⟨k + 1, r2, by omega, by go_num, rfl, hr3, HN, hB.trans (b1.mono hB.size)⟩
     case measure => simp [intOf]; omega
   ·
    have HN : Hid (∀ n ∈ l, n.r.size ≤ left) := by
     have := HA.out
     rw [List.take_of_length_le (by omega)] at this
     exact this
    go_wp2
    go_ret
    exact ⟨⟨(r : Int), rfl, by omega, .inr ⟨by omega, by omega, HN.out⟩⟩, hB⟩
theorem infoH : (Tryz.prog.info? 35).map (fun i => (i.zero, i.size, i.bytes)) = some (some (.agg #[.int .i64 0, .string ⟨#[]⟩]), 2, 24) := by kernel_rfl
set_option maxRecDepth 1000000 in
set_option maxHeartbeats 1000000 in
theorem to_heads (w : World) (v : Value) (l : List Hd) (h : Sh w v l) (hx : l.length ≤ 1000000000) :
  Calls Tryz.prog 12 #[v] w fun e w' => ∃ v', e = .returned v' ∧ Oh w' w.heap.size w'.heap.size v' l ∧ Below w.heap.size w w' := by
 obtain ⟨i0, hi, hz0, hz1, hz2⟩ := info_parts infoH
 have HS : Hid (Sh w v l) := h
 obtain ⟨hcl, ao, cap, rfl, hcap, hnn, _⟩ := h
 have HCL : Hid ((hds l).length = l.length * 2) := hcl
 clear hcl
 go_enter Tryz.func12, Tryz.ntmps12
 go_wp2_with (first | (at_make; refine wpList_make_full _ rfl _ _ 43 rfl w.heap.size 35 i0 (.agg #[.int .i64 0, .string ⟨#[]⟩]) 2 Tryz.underlying43 hi hz0 hz1 _ _ _ _ l.length rfl rfl rfl rfl (by rw [hz2]; omega) (by unfold maxLen; omega) (Nat.le_refl _) ?_; intro w1 hown hgrow))
 have hbel : Below w.heap.size w w1 := (Below.refl _ _).grown hgrow (Nat.le_refl _) (by simp)
 clear hgrow
 go_loopw [4] (fun i wr => ∃ (k : Nat) (L : List Value), k ≤ l.length ∧ i = .int .i64 (k : Int) ∧ Hid (L.take (k * 2) = (hds l).take (k * 2)) ∧ wr.ownsRow w.heap.size 35 2 (.slice (some ⟨w.heap.size, 0, none⟩) l.length l.length) l.length L ∧ Below w.heap.size w wr) (fun i _ => l.length - (intOf i).toNat)
 case atStart => exact ⟨0, _, Nat.zero_le _, rfl, by show _ = _; simp, hown, hbel⟩
 case round =>
  obtain ⟨k, L, hk, rfl, HE, hownr, hbr⟩ := hrel
  have HL : Hid (L.length = l.length * 2) := hownr.1
  clear hown hbel
  by_cases hlt : k < l.length
  ·
   obtain ⟨n, hn⟩ : ∃ n, l[k]? = some n := ⟨l[k], by simp [hlt]⟩
   obtain ⟨b, off, cap', he, _, c0, c1⟩ := Sh.at (HS.out.later hbr) hn
   simp only [Value.slice.injEq] at he
   obtain ⟨rfl, _, rfl⟩ := he
   have q : ∀ W, _ := fun W => to_head W n
   have HG := hds_get l k n hn
   have HG' : Hid _ := HG
   clear hn HG
   have HO : Hid (wr.ownsRow w.heap.size 35 2 (.slice (some ⟨w.heap.size, 0, none⟩) l.length l.length) l.length L) := hownr
   clear hownr
   go_wp2_with fail
   refine (q _).mono ?_
   rintro e w4 ⟨rfl, b4⟩
   have ho4 : w4.ownsRow w.heap.size 35 2 (.slice (some ⟨w.heap.size, 0, none⟩) l.length l.length) l.length L := ((On.of HO.out).later b4 (Nat.le_refl _)).1
   have hB4 : Below w.heap.size w w4 := hbr.trans (b4.mono hbr.size)
   have th : w4.there w.heap.size (k * 2) 2 := there_own ho4 (by omega)
   obtain ⟨W5, HW5, HO5, HB5⟩ : ∃ W5, Hid (w4.setCells w.heap.size (k * 2) (hc n).toList = W5) ∧ Hid (W5.ownsRow w.heap.size 35 2 (.slice (some ⟨w.heap.size, 0, none⟩) l.length l.length) l.length (putL L (k * 2) (hc n).toList)) ∧ Hid (Below w.heap.size w W5) :=
    ⟨_, rfl, own_setCells _ (k * 2) w4 L ho4, below_setCells (Nat.le_refl _) _ _ w4 hB4⟩
   have HP : Hid ((putL L (k * 2) (hc n).toList).take ((k + 1) * 2) = (hds l).take ((k + 1) * 2)) := by
    refine putL_take (by rw [HL.out, HCL.out]) (by rw [HCL.out]; omega) HE.out rfl ?_
    obtain ⟨g0, g1⟩ := HG'.out
    intro j hj
    match j, hj with
    | 0, _ => exact g0
    | 1, _ => exact g1
   clear ho4 hB4 HO HG' b4 q c0 c1
   go_wp2_with (refine wpList_store_mid rfl 35 _ _ rfl w.heap.size (k * 2) (hc n) rfl rfl th (sizeH n) (oneH n) ?_; rw [HW5.out])
   go_roundw
   case rel => exact ⟨k + 1, _, by omega, by go_num, HP, HO5.out, HB5.out⟩
   case measure => simp [intOf]; omega
  ·
   go_wp2
   go_ret
   refine ⟨_, rfl, ?_, hbr⟩
   have h1 := HE.out
   have h2 := HL.out
   rw [List.take_of_length_le (by omega), List.take_of_length_le (by rw [HCL.out]; omega)] at h1
   subst h1
   exact On.of hownr
set_option maxRecDepth 1000000 in
set_option maxHeartbeats 1000000 in
theorem eq_head (w : World) (h : Hd) :
  Calls Tryz.prog 41 #[.agg #[.int .i64 h.n, .string h.r], .agg #[.int .i64 h.n, .string h.r]] w fun e w' => e = .returned (.bool true) ∧ Below w.heap.size w w' := by
 have HB : Hid (Below w.heap.size w ((w.alloc (.cells #[.int .i64 h.n, .string h.r] 35)).alloc (.cells #[.int .i64 h.n, .string h.r] 35))) := ((Below.refl _ _).alloc (Nat.le_refl _) _).alloc (by simp) _
 go_enter Tryz.func41, Tryz.ntmps41
 go_wp2
 go_ret
 exact ⟨rfl, HB.out⟩
set_option maxRecDepth 1000000 in
set_option maxHeartbeats 1000000 in
theorem ok_spec (w : World) (h : Hd) : Calls Tryz.prog 72 #[.agg #[.int .i64 h.n, .string h.r]] w fun e w' => e = .returned (.bool (okH h)) ∧ Below w.heap.size w w' := by
 have HB : Hid (Below w.heap.size w (w.alloc (.cells #[.int .i64 h.n, .string h.r] 35))) := (Below.refl _ _).alloc (Nat.le_refl _) _
 by_cases hn : 0 ≤ h.n ∧ h.n ≤ 200
 ·
  have q := in6t (w.alloc (.cells #[.int .i64 h.n, .string h.r] 35)) hn
  obtain ⟨t, ht⟩ : ∃ t, ((h.r.size : Int) == 32) = t := ⟨_, rfl⟩
  have HN : Hid (okH h = t) := by
   show _ = _
   rw [← ht]
   unfold okH
   by_cases h32 : h.r.size = 32
   ·
    rw [decide_eq_true ⟨hn, h32⟩, h32]; rfl
   ·
    rw [decide_eq_false (fun c => h32 c.2)]
    exact (beq_eq_false_iff_ne.2 (by omega)).symm
  clear hn
  go_enter Tryz.func72, Tryz.ntmps72
  go_wp2_with fail
  refine q.mono ?_
  rintro e w1 ⟨rfl, rfl⟩
  go_wp2
  go_ret
  exact ⟨by rw [HN.out]; rfl, HB.out⟩
 ·
  have q := in6f (w.alloc (.cells #[.int .i64 h.n, .string h.r] 35)) hn
  have HN : Hid (okH h = false) := by show _ = _; unfold okH; rw [decide_eq_false (fun c => hn c.1)]
  clear hn
  go_enter Tryz.func72, Tryz.ntmps72
  go_wp2_with fail
  refine q.mono ?_
  rintro e w1 ⟨rfl, rfl⟩
  go_wp2
  go_ret
  exact ⟨by rw [HN.out]; rfl, HB.out⟩
theorem signed_snoc {t : List Hd} {k : Nat} {x : Hd} (hx : t[k]? = some x) (h : Hd) : signed (t.take (k + 1)) h = (signed (t.take k) h || eqH x h) := by
 unfold signed
 rw [List.take_add_one, hx]
 simp
theorem signed_yes {t : List Hd} {k : Nat} {x h : Hd} (hx : t[k]? = some x) (he : eqH x h = true) : signed t h = true := by
 unfold signed
 rw [List.any_eq_true]
 exact ⟨x, List.mem_of_getElem? hx, he⟩
set_option maxRecDepth 1000000 in
set_option maxHeartbeats 1000000 in
theorem signed_spec (w : World) (v : Value) (t : List Hd) (h : Hd) (hs : Sh w v t) (hx : t.length ≤ 1000000000000) :
  Calls Tryz.prog 81 #[v, .agg #[.int .i64 h.n, .string h.r]] w fun e w' => e = .returned (.bool (signed t h)) ∧ Below w.heap.size w w' := by
 obtain ⟨W, hW, r0, bW⟩ : ∃ W, Hid (w.alloc (.cells #[.int .i64 h.n, .string h.r] 35) = W) ∧ W.heap[w.heap.size]? = some (.cells (hc h) 35 (0, 0)) ∧ Below w.heap.size w W := ⟨_, rfl, heap_alloc_new w _, (Below.refl _ _).alloc (Nat.le_refl _) _⟩
 have HS : Hid (Sh W v t) := hs.later bW
 obtain ⟨ao, cap, rfl, hcap⟩ := Sh.form hs
 have p0 : W.cell? ⟨w.heap.size, 0, none⟩ = some (.int .i64 h.n) := row_at r0 0
 have p1 : W.cell? ⟨w.heap.size, 1, none⟩ = some (.string h.r) := row_at r0 1
 obtain ⟨S, hS⟩ : ∃ S, signed t h = S := ⟨_, rfl⟩
 rw [hS]
 have HSS : Hid (signed t h = S) := hS
 have eq1 : ∀ (W : World) (x : Hd), _ := fun W x => eqlH W x h
 have gr1 : ∀ (W : World) (x y : Operand) (xs ys : Array Value), _ := fun W x y xs ys => grdH W .eql x y xs ys
 clear hs hS r0
 go_enter Tryz.func81, Tryz.ntmps81
 go_wp2
 rw [hW.out]
 go_loopw [5] (fun i wr => ∃ k n : Nat, k ≤ t.length ∧ i = .int .i64 (k : Int) ∧ Hid (signed (t.take k) h = false) ∧ wr = W.drewN n) (fun i _ => t.length - (intOf i).toNat)
 case atStart => exact ⟨0, 0, Nat.zero_le _, rfl, rfl, rfl⟩
 case round =>
  obtain ⟨k, n, hk, rfl, HK, rfl⟩ := hrel
  by_cases hlt : k < t.length
  ·
   obtain ⟨x, hx0⟩ : ∃ x, t[k]? = some x := ⟨t[k], by simp [hlt]⟩
   obtain ⟨b, off, cap', he, _, c0, c1⟩ := Sh.at HS.out hx0
   simp only [Value.slice.injEq] at he
   obtain ⟨rfl, _, rfl⟩ := he
   have eq2 := fun W => eq1 W x
   by_cases hxh : eqH x h = true
   ·
    have HF : Hid (S = true) := by show _ = _; rw [← HSS.out]; exact signed_yes hx0 hxh
    simp only [hxh] at eq2
    clear hx0 HK eq1 hxh
    go_wp2
    go_quiet (fail)
    go_wp2
    go_ret
    exact ⟨by rw [HF.out]; rfl, below_drewN (below_drewN bW _) _⟩
   ·
    have hxf : eqH x h = false := by simpa using hxh
    have HN : Hid (signed (t.take (k + 1)) h = false) := by show _ = _; rw [signed_snoc hx0, HK.out, hxf]; rfl
    simp only [hxf] at eq2
    clear hx0 HK eq1 hxh hxf
    go_wp2
    go_quiet (fail)
    go_wp2
    go_roundw
    case rel => exact ⟨k + 1, n + nq, by omega, by go_num, HN, rfl⟩
    case measure => simp [intOf]; omega
  ·
   have HF : Hid (S = false) := by
    show _ = _
    have h1 := HK.out
    rw [List.take_of_length_le (by omega)] at h1
    rw [← HSS.out, h1]
   clear HK
   go_wp2
   go_ret
   exact ⟨by rw [HF.out]; rfl, below_drewN bW n⟩
set_option maxRecDepth 1000000 in
set_option maxHeartbeats 1000000 in
theorem eq_heads (w : World) (v1 v2 : Value) (l : List Hd) (h1 : Sh w v1 l) (h2 : Sh w v2 l) (hx : l.length ≤ 1000000000000) :
  Calls Tryz.prog 17 #[v1, v2] w fun e w' => e = .returned (.bool true) ∧ Below w.heap.size w w' := by
 have HS1 : Hid (Sh w v1 l) := h1
 have HS2 : Hid (Sh w v2 l) := h2
 obtain ⟨ao, cap, rfl, hcap⟩ := Sh.form h1
 obtain ⟨ao2, cap2, rfl, hcap2⟩ := Sh.form h2
 go_enter Tryz.func17, Tryz.ntmps17
 go_wp2
 go_loopw [5] (fun i wr => ∃ k : Nat, k ≤ l.length ∧ i = .int .i64 (k : Int) ∧ Below w.heap.size w wr) (fun i _ => l.length - (intOf i).toNat)
 case atStart => exact ⟨0, Nat.zero_le _, rfl, Below.refl _ _⟩
 case round =>
  obtain ⟨k, hk, rfl, hB⟩ := hrel
  by_cases hlt : k < l.length
  ·
   obtain ⟨x, hn⟩ : ∃ n, l[k]? = some n := ⟨l[k], by simp [hlt]⟩
   obtain ⟨b, off, cap', he, _, c0, c1⟩ := Sh.at (HS1.out.later hB) hn
   simp only [Value.slice.injEq] at he
   obtain ⟨rfl, _, rfl⟩ := he
   obtain ⟨b2, off2, cap2', he2, _, e0, e1⟩ := Sh.at (HS2.out.later hB) hn
   simp only [Value.slice.injEq] at he2
   obtain ⟨rfl, _, rfl⟩ := he2
   have q : ∀ W, _ := fun W => eq_head W x
   clear hn
   go_wp2_with fail
   refine wp_region_held_drew (S := fun w' => w'.cell? ⟨b, off + k * 2, none⟩ = some (.int .i64 x.n) ∧ w'.cell? ⟨b, off + k * 2 + 1, none⟩ = some (.string x.r) ∧ w'.cell? ⟨b2, off2 + k * 2, none⟩ = some (.int .i64 x.n) ∧ w'.cell? ⟨b2, off2 + k * 2 + 1, none⟩ = some (.string x.r)) (by kernel_rfl) ⟨c0, c1, e0, e1⟩ (fun hHeld => ?_)
   (refine wpAnyH_take (i := 0) (v := ?v0x1) rfl (by kernel_rfl) (by kernel_rfl) (by kernel_rfl) (fun _ _ _ h => h) (Or.inl ⟨by rfl, ?hy0x1⟩) (by assumption) ?rest0x1; case hy0x1 => (intro w hSw; (try dsimp only at hSw); go_split_ands; go_simp; (try with_reducible rfl)))
   try simp only [Act.put, pu1, pu2, pu3, pu4, pu5, pu6]
   (refine wpAnyH_take (i := 1) (v := ?v1x2) rfl (by kernel_rfl) (by kernel_rfl) (by kernel_rfl) (fun _ _ _ h => h) (Or.inl ⟨by rfl, ?hy1x2⟩) (by assumption) ?rest1x2; case hy1x2 => (intro w hSw; (try dsimp only at hSw); go_split_ands; go_simp; (try with_reducible rfl)))
   try simp only [Act.put, pu1, pu2, pu3, pu4, pu5, pu6]
   (refine wpAnyH_take (i := 2) (v := ?v2x3) rfl (by kernel_rfl) (by kernel_rfl) (by kernel_rfl) (fun _ _ _ h => h) (Or.inl ⟨by rfl, ?hy2x3⟩) (by assumption) ?rest2x3; case hy2x3 => (intro w hSw; (try dsimp only at hSw); go_split_ands; go_simp; (try with_reducible rfl)))
   try simp only [Act.put, pu1, pu2, pu3, pu4, pu5, pu6]
   (refine wpAnyH_take (i := 3) (v := ?v3x4) rfl (by kernel_rfl) (by kernel_rfl) (by kernel_rfl) (fun _ _ _ h => h) (Or.inl ⟨by rfl, ?hy3x4⟩) (by assumption) ?rest3x4; case hy3x4 => (intro w hSw; (try dsimp only at hSw); go_split_ands; go_simp; (try with_reducible rfl)))
   try simp only [Act.put, pu1, pu2, pu3, pu4, pu5, pu6]
   (refine wpAnyH_take (i := 4) (v := ?v4x5) rfl (by kernel_rfl) (by kernel_rfl) (by kernel_rfl) (fun _ _ _ h => h) (Or.inl ⟨by rfl, ?hy4x5⟩) (by assumption) ?rest4x5; case hy4x5 => (intro w hSw; (try dsimp only at hSw); go_split_ands; go_simp; (try with_reducible rfl)))
   try simp only [Act.put, pu1, pu2, pu3, pu4, pu5, pu6]
   (refine wpAnyH_take (i := 5) (v := ?v5x6) rfl (by kernel_rfl) (by kernel_rfl) (by kernel_rfl) (fun _ _ _ h => h) (Or.inl ⟨by rfl, ?hy5x6⟩) (by assumption) ?rest5x6; case hy5x6 => (intro w hSw; (try dsimp only at hSw); go_split_ands; go_simp; (try with_reducible rfl)))
   try simp only [Act.put, pu1, pu2, pu3, pu4, pu5, pu6]
   (refine wpAnyH_take (i := 6) (v := ?v6x7) rfl (by kernel_rfl) (by kernel_rfl) (by kernel_rfl) (fun _ _ _ h => h) (Or.inl ⟨by rfl, ?hy6x7⟩) (by assumption) ?rest6x7; case hy6x7 => (intro w hSw; (try dsimp only at hSw); go_split_ands; go_simp; (try with_reducible rfl)))
   try simp only [Act.put, pu1, pu2, pu3, pu4, pu5, pu6]
   (refine wpAnyH_take (i := 7) (v := ?v7x8) rfl (by kernel_rfl) (by kernel_rfl) (by kernel_rfl) (fun _ _ _ h => h) (Or.inl ⟨by rfl, ?hy7x8⟩) (by assumption) ?rest7x8; case hy7x8 => (intro w hSw; (try dsimp only at hSw); go_split_ands; go_simp; (try with_reducible rfl)))
   try simp only [Act.put, pu1, pu2, pu3, pu4, pu5, pu6]
   refine wpAnyH_ready (rs := [8]) (by kernel_rfl) (by simp) ?_
   refine AllReadyH.cons rfl (fun K hK => ?_) AllReadyH.nil
   go_simp
   refine (q _).mono ?_
   rintro e w4 ⟨rfl, b4⟩
   refine hK.out _ _ ⟨keepH hHeld.1 b4, keepH hHeld.2.1 b4, keepH hHeld.2.2.1 b4, keepH hHeld.2.2.2 b4⟩ (fun hHeld => ?_)
   clear hK K
   try simp only [Act.put, pu1, pu2, pu3, pu4, pu5, pu6]
   (refine wpAnyH_take (i := 9) (v := ?v9x9) rfl (by kernel_rfl) (by kernel_rfl) (by kernel_rfl) (fun _ _ _ h => h) (Or.inl ⟨by rfl, ?hy9x9⟩) (by assumption) ?rest9x9; case hy9x9 => (intro w hSw; (try dsimp only at hSw); go_split_ands; go_simp; (try with_reducible rfl)))
   try simp only [Act.put, pu1, pu2, pu3, pu4, pu5, pu6]
   refine wpAnyH_done (by kernel_rfl) ?_ _
   clear hHeld
   have B4 : Below w.heap.size w w4 := (Below.drew hB).trans (b4.mono hB.size)
   clear c0 c1 e0 e1 q b4
   go_wp2
   go_roundw
   case rel => exact ⟨k + 1, by omega, by go_num, B4⟩
   case measure => simp [intOf]; omega
  ·
   go_wp2
   go_ret
   exact ⟨rfl, hB⟩
set_option maxRecDepth 1000000 in
set_option maxHeartbeats 1000000 in
theorem headOf_spec (w : World) (v : Value) (l : List ByteArray) (h : Sl w v (ss l)) (hl : l.length ≤ 1000000000000) (hz : ∀ s ∈ l, s.size ≤ 10000000000) :
  Calls Tryz.prog 77 #[v] w fun e w' => e = .returned (.agg #[.int .i64 (headOf l).n, .string (headOf l).r]) ∧ Below w.heap.size w w' := by
 have HR : Hid ((w.alloc (.cells #[.int .i64 0, .string ⟨#[]⟩] 35)).heap[w.heap.size]? = some (.cells (hc hd0) 35 (0, 0))) := heap_alloc_new w _
 have HB : Hid (Below w.heap.size w (w.alloc (.cells #[.int .i64 0, .string ⟨#[]⟩] 35))) := (Below.refl _ _).alloc (Nat.le_refl _) _
 by_cases h2 : l.length ≤ 200
 ·
  have q := root_any l.length l (Nat.le_refl _) (w.alloc (.cells #[.int .i64 0, .string ⟨#[]⟩] 35)) v (h.later HB.out) (by omega) hz
  obtain ⟨M, hM⟩ : ∃ M, headOf l = M := ⟨_, rfl⟩
  have hM2 : M = ⟨l.length, root l⟩ := by rw [← hM]; unfold headOf; rw [if_pos h2]
  obtain ⟨ao, cap, rfl, hcap, _⟩ := h
  have d2 : ¬ (200 : Int) < (l.length : Int) := by omega
  obtain ⟨x, hx⟩ : ∃ x, root l = x := ⟨_, rfl⟩
  rw [hx] at q hM2
  rw [hM, hM2]
  rw [ss_len] at *
  clear hx hM hM2 hz
  go_enter Tryz.func77, Tryz.ntmps77
  go_wp2_with fail
  refine q.mono ?_
  rintro e w1 ⟨rfl, b1⟩
  have R1 := rowKeep HR.out b1
  have B1 : Below w.heap.size w w1 := HB.out.trans (b1.mono HB.out.size)
  clear q HR b1
  go_wp2_with (refine wpList_store_row rfl 35 _ _ rfl w.heap.size (hc (⟨(l.length : Int), x⟩ : Hd)) rfl rfl 35 _ R1 (sizeH (⟨(l.length : Int), x⟩ : Hd)) rfl (oneH (⟨(l.length : Int), x⟩ : Hd)) ?_)
  exact bodyPost_ret (v := .agg (hc ⟨(l.length : Int), x⟩)) (results_cell_row rfl _ _ w.heap.size 35 _ (0, 0) _ rfl (setRow_heap _ _ _ _ _ (0, 0) R1) Tryz.underlying35 rfl (sizeH _)) rfl ⟨rfl, below_setRow B1 (Nat.le_refl _) _⟩
 ·
  have d2 : (200 : Int) < (l.length : Int) := by omega
  have hM : headOf l = hd0 := by unfold headOf; rw [if_neg h2]
  rw [hM]
  obtain ⟨ao, cap, rfl, hcap, _⟩ := h
  rw [ss_len]
  clear hz hM
  go_enter Tryz.func77, Tryz.ntmps77
  go_wp2_with (refine wpList_store_row rfl 35 _ _ rfl w.heap.size (hc hd0) rfl rfl 35 _ HR.out (sizeH hd0) rfl (oneH hd0) ?_)
  exact bodyPost_ret (v := .agg (hc hd0)) (results_cell_row rfl _ _ w.heap.size 35 _ (0, 0) _ rfl (setRow_heap _ _ _ _ _ (0, 0) HR.out) Tryz.underlying35 rfl (sizeH hd0)) rfl ⟨rfl, below_setRow HB.out (Nat.le_refl _) _⟩
theorem headOf_size (l : List ByteArray) : (headOf l).r.size ≤ 32 := by
 unfold headOf
 split
 ·
  simp only [root_size]; exact Nat.le_refl _
 ·
  exact Nat.zero_le _
end Go.Proofs.YtfpaichdkddglabGreatDoor.He
namespace Go.Proofs.YtfpaichdkddglabGreatDoor.Sr
open Go.RowKit Go.Proofs.YtfpaichdkddglabGreatDoor.Mem Go.Proofs.YtfpaichdkddglabGreatDoor.Laws Go.Proofs.YtfpaichdkddglabGreatDoor.Sha Go.Proofs.YtfpaichdkddglabGreatDoor.Tr Go.Proofs.YtfpaichdkddglabGreatDoor.He
set_option linter.unusedVariables false
set_option linter.unusedSimpArgs false
def body (h : Hd) (x : List ByteArray) : List Int := Puts.num h.n ++ Puts.tx h.r ++ (Puts.num (x.length : Int) ++ Puts.txs x)
def sum4 (b : List Int) : List Int := (digest b).take 4
def put (h : Hd) (x : List ByteArray) : List Int := Puts.num ((body h x).length : Int) ++ (body h x ++ sum4 (body h x))
def putC (h : Hd) (x : List ByteArray) : List Int := if okH h = true ∧ 1 ≤ x.length ∧ x.length ≤ 200 then put h x else []
theorem txs_byt : ∀ l : List ByteArray, Byt (Puts.txs l) := by
 intro l
 induction l with
 | nil => intro x hx; cases hx
 | cons s r ih => exact (Puts.tx_byt s).app ih
theorem body_byt (h : Hd) (x : List ByteArray) : Byt (body h x) := ((Puts.num_byt _).app (Puts.tx_byt _)).app ((Puts.num_byt _).app (txs_byt _))
theorem sum4_byt (b : List Int) : Byt (sum4 b) := fun x hx => digest_byt b x (List.mem_of_mem_take hx)
theorem sum4_len (b : List Int) : (sum4 b).length = 4 := by unfold sum4; rw [List.length_take, digest_len]; rfl
theorem put_byt (h : Hd) (x : List ByteArray) : Byt (put h x) := (Puts.num_byt _).app ((body_byt _ _).app (sum4_byt _))
theorem body_len (h : Hd) (x : List ByteArray) : (body h x).length ≤ h.r.size + 15 + 5 * x.length + Puts.tot x := by
 have h1 := Puts.tx_len h.r
 have h2 := Puts.txs_len x
 have h3 := (Puts.num_len h.n).2
 have h4 := (Puts.num_len (x.length : Int)).2
 unfold body
 simp only [List.length_append]
 omega
theorem put_len (h : Hd) (x : List ByteArray) : (put h x).length ≤ (body h x).length + 9 := by
 have h3 := (Puts.num_len ((body h x).length : Int)).2
 have h4 := sum4_len (body h x)
 unfold put
 simp only [List.length_append]
 omega
theorem put_pos (h : Hd) (x : List ByteArray) : 5 ≤ (put h x).length := by
 have h3 := (Puts.num_len ((body h x).length : Int)).1
 have h4 := sum4_len (body h x)
 unfold put
 simp only [List.length_append]
 omega
def no12 (a : Int) : Hd × List ByteArray × Int × Bool := (hd0, [], a, false)
def inBody (b : List Int) : Option (Hd × List ByteArray) :=
 if (Plain.getNum b 0).2.2 = true ∧ (Plain.getText b (Plain.getNum b 0).2.1).2.2 = true ∧ (Plain.getTexts b (Plain.getText b (Plain.getNum b 0).2.1).2.1).2.2 = true ∧
   (Plain.getTexts b (Plain.getText b (Plain.getNum b 0).2.1).2.1).2.1 = (b.length : Int) ∧ okH ⟨(Plain.getNum b 0).1, (Plain.getText b (Plain.getNum b 0).2.1).1⟩ = true ∧
   ¬ (Plain.getTexts b (Plain.getText b (Plain.getNum b 0).2.1).2.1).1.length = 0
 then some (⟨(Plain.getNum b 0).1, (Plain.getText b (Plain.getNum b 0).2.1).1⟩, (Plain.getTexts b (Plain.getText b (Plain.getNum b 0).2.1).2.1).1)
 else none
def getC (xs : List Int) (a : Int) : Hd × List ByteArray × Int × Bool :=
 if (Plain.getNum xs a).2.2 = true ∧ (Plain.getNum xs a).1 ≤ (xs.length : Int) - (Plain.getNum xs a).2.1 - 4 then
  match inBody ((xs.drop (Plain.getNum xs a).2.1.toNat).take (Plain.getNum xs a).1.toNat) with
  | some (h, x) =>
   if (xs.drop ((Plain.getNum xs a).2.1.toNat + (Plain.getNum xs a).1.toNat)).take 4 = sum4 ((xs.drop (Plain.getNum xs a).2.1.toNat).take (Plain.getNum xs a).1.toNat) then
    (h, x, (Plain.getNum xs a).2.1 + (Plain.getNum xs a).1 + 4, true)
   else no12 a
  | none => no12 a
 else no12 a
theorem okH_parts {h : Hd} (hk : okH h = true) : 0 ≤ h.n ∧ h.n ≤ 200 ∧ h.r.size = 32 := by
 unfold okH at hk
 simp only [decide_eq_true_eq] at hk
 exact ⟨hk.1.1, hk.1.2, hk.2⟩
theorem inBody_body {h : Hd} {x : List ByteArray} (hk : okH h = true) (h1 : 1 ≤ x.length) (h2 : x.length ≤ 200) (hs : ∀ s ∈ x, s.size ≤ 1000000000) : inBody (body h x) = some (h, x) := by
 obtain ⟨k0, k1, k2⟩ := okH_parts hk
 have e1 : Plain.getNum (body h x) 0 = (h.n, ((Puts.num h.n).length : Int), true) := by
  have g := Plain.getNum_back [] (Puts.tx h.r ++ (Puts.num (x.length : Int) ++ Puts.txs x)) h.n
  have e : body h x = [] ++ (Puts.num h.n ++ (Puts.tx h.r ++ (Puts.num (x.length : Int) ++ Puts.txs x))) := by unfold body; simp only [List.append_assoc, List.nil_append]
  have ec : Plain.clampN h.n = h.n := by unfold Plain.clampN; rw [if_neg (by omega), if_neg (by omega)]
  rw [e]
  simpa [ec] using g
 have e2 : Plain.getText (body h x) ((Puts.num h.n).length : Int) = (h.r, (((Puts.num h.n).length + (Puts.tx h.r).length : Nat) : Int), true) := by
  have g := Plain.getText_back (Puts.num h.n) (Puts.num (x.length : Int) ++ Puts.txs x) h.r (by omega)
  have e : body h x = Puts.num h.n ++ (Puts.tx h.r ++ (Puts.num (x.length : Int) ++ Puts.txs x)) := by unfold body; simp only [List.append_assoc]
  rw [e, g]
  simp
 have e3 : Plain.getTexts (body h x) (((Puts.num h.n).length + (Puts.tx h.r).length : Nat) : Int) = (x, ((body h x).length : Int), true) := by
  have g := Plain.getTexts_back (Puts.num h.n ++ Puts.tx h.r) [] x h2 hs
  have e : body h x = (Puts.num h.n ++ Puts.tx h.r ++ Puts.num (x.length : Int) ++ Puts.txs x) ++ [] := by unfold body; simp only [List.append_assoc, List.append_nil]
  rw [List.length_append] at g
  rw [e, g]
  simp
 unfold inBody
 rw [e1]
 simp only
 rw [e2]
 simp only
 rw [e3]
 simp only
 rw [if_pos ⟨trivial, trivial, trivial, trivial, hk, by omega⟩]
theorem size_txs {t : ByteArray} : ∀ l : List ByteArray, t ∈ l → t.size ≤ (Puts.txs l).length := by
 intro l
 induction l with
 | nil => intro h; cases h
 | cons a r ih =>
  intro h
  simp only [Puts.txs, List.length_append]
  rcases List.mem_cons.1 h with rfl | h
  ·
   have : (Puts.tx t).length = (Puts.num (t.size : Int)).length + t.size := by unfold Puts.tx; rw [List.length_append, sb_len]
   omega
  ·
   have := ih h; omega
theorem body_inBody {b : List Int} {h : Hd} {x : List ByteArray} (hb : Byt b) (hi : inBody b = some (h, x)) : b = body h x ∧ okH h = true ∧ 1 ≤ x.length ∧ x.length ≤ 200 ∧ ∀ s ∈ x, s.size ≤ b.length := by
 unfold inBody at hi
 split at hi
 ·
  rename_i hc
  simp only [Option.some.injEq, Prod.mk.injEq] at hi
  obtain ⟨n, p, ok, hg⟩ : ∃ n p ok, Plain.getNum b 0 = (n, p, ok) := ⟨_, _, _, rfl⟩
  rw [hg] at hi hc
  simp only at hi hc
  obtain ⟨r, q, ok2, hg2⟩ : ∃ r q ok, Plain.getText b p = (r, q, ok) := ⟨_, _, _, rfl⟩
  rw [hg2] at hi hc
  simp only at hi hc
  obtain ⟨l, s, ok3, hg3⟩ : ∃ l s ok, Plain.getTexts b q = (l, s, ok) := ⟨_, _, _, rfl⟩
  have hlen := Plain.getTexts_len b q
  rw [hg3] at hi hc hlen
  simp only at hi hc hlen
  obtain ⟨rfl, rfl, rfl, hs, hk, hl⟩ := hc
  obtain ⟨rfl, rfl⟩ := hi
  obtain ⟨p', rfl, _, hn9, _, hd⟩ := Can.getNum_canon (a := 0) hb hg
  obtain ⟨q', rfl, _, hd2⟩ := Can.getText_canon hb hg2
  obtain ⟨s', hs', hd3⟩ := Can.getTexts_canon hb hg3
  have es : s' = b.length := by omega
  rw [es, List.drop_of_length_le (Nat.le_refl _), List.append_nil] at hd3
  rw [List.drop_zero] at hd
  have eb : b = body ⟨n, r⟩ l := by
   conv => lhs; rw [hd, hd2, hd3]
   unfold body
   simp only [List.append_assoc]
  refine ⟨eb, hk, by omega, hlen, ?_⟩
  intro t ht
  have h5 := size_txs l ht
  rw [eb]
  unfold body
  simp only [List.length_append]
  omega
 ·
  cases hi
theorem size_body {h : Hd} {x : List ByteArray} {t : ByteArray} (ht : t ∈ x) : t.size ≤ (body h x).length := by
 have := size_txs x ht
 unfold body
 simp only [List.length_append]
 omega
theorem get_sum (ys r s4 : List Int) {h : Hd} {x : List ByteArray} (hk : okH h = true) (h1 : 1 ≤ x.length) (h2 : x.length ≤ 200) (hl : (body h x).length ≤ 1000000000) (h4 : s4.length = 4) :
  getC (ys ++ (Puts.num ((body h x).length : Int) ++ (body h x ++ s4) ++ r)) (ys.length : Int) = if s4 = sum4 (body h x) then (h, x, ((ys.length + (put h x).length : Nat) : Int), true) else no12 (ys.length : Int) := by
 have hi := inBody_body hk h1 h2 (fun s h' => Nat.le_trans (size_body (h := h) h') hl)
 have e0 : (put h x).length = (Puts.num ((body h x).length : Int)).length + (body h x).length + 4 := by unfold put; simp only [List.length_append, sum4_len]; omega
 obtain ⟨B, hB⟩ : ∃ B, body h x = B := ⟨_, rfl⟩
 rw [hB] at hi hl e0 ⊢
 obtain ⟨N, hN⟩ : ∃ N, Puts.num (B.length : Int) = N := ⟨_, rfl⟩
 have g := Plain.getNum_back ys ((B ++ s4) ++ r) (B.length : Int)
 rw [Plain.clamp_size hl] at g
 rw [hN] at g e0 ⊢
 have e : ys ++ ((N ++ (B ++ s4)) ++ r) = ys ++ (N ++ ((B ++ s4) ++ r)) := by simp only [List.append_assoc]
 rw [e]
 have g2 : Plain.getNum (ys ++ (N ++ ((B ++ s4) ++ r))) (ys.length : Int) = ((B.length : Int), ((ys.length + N.length : Nat) : Int), true) := by rw [g]; simp
 have ed : (ys ++ (N ++ ((B ++ s4) ++ r))).drop (ys.length + N.length) = B ++ (s4 ++ r) := by
  rw [← List.append_assoc, List.drop_append, List.drop_eq_nil_of_le (by simp), List.nil_append, show ys.length + N.length - (ys ++ N).length = 0 by simp, List.drop_zero, List.append_assoc]
 have et : (B ++ (s4 ++ r)).take B.length = B := by rw [List.take_append_of_le_length (Nat.le_refl _), List.take_of_length_le (Nat.le_refl _)]
 have ed2 : (ys ++ (N ++ ((B ++ s4) ++ r))).drop (ys.length + N.length + B.length) = s4 ++ r := by
  rw [← List.drop_drop, ed, List.drop_append, List.drop_eq_nil_of_le (Nat.le_refl _), Nat.sub_self, List.drop_zero, List.nil_append]
 have et2 : (s4 ++ r).take 4 = s4 := by rw [List.take_append_of_le_length (by omega), List.take_of_length_le (by omega)]
 have hlen : (ys ++ (N ++ ((B ++ s4) ++ r))).length = ys.length + N.length + B.length + 4 + r.length := by
  simp only [List.length_append]; omega
 unfold getC
 rw [g2]
 simp only [Int.toNat_natCast]
 rw [if_pos ⟨trivial, by rw [hlen]; omega⟩, ed, et, hi]
 simp only
 rw [ed2, et2]
 split
 ·
  simp only [e0, Prod.mk.injEq, true_and, and_true]
  omega
 ·
  rfl
theorem get_put (ys r : List Int) {h : Hd} {x : List ByteArray} (hk : okH h = true) (h1 : 1 ≤ x.length) (h2 : x.length ≤ 200) (hl : (body h x).length ≤ 1000000000) :
  getC (ys ++ (put h x ++ r)) (ys.length : Int) = (h, x, ((ys.length + (put h x).length : Nat) : Int), true) := by
 have g := get_sum ys r (sum4 (body h x)) hk h1 h2 hl (sum4_len _)
 rw [if_pos rfl] at g
 exact g
theorem put_get {xs : List Int} {a : Nat} {h : Hd} {x : List ByteArray} {p : Int} (hb : Byt xs) (hg : getC xs (a : Int) = (h, x, p, true)) :
  ∃ q : Nat, p = (q : Int) ∧ q = a + (put h x).length ∧ q ≤ xs.length ∧ okH h = true ∧ 1 ≤ x.length ∧ x.length ≤ 200 ∧ (body h x).length ≤ 1000000000 ∧ xs.drop a = put h x ++ xs.drop q := by
 unfold getC at hg
 split at hg
 ·
  rename_i hc
  obtain ⟨n, p', ok, hn⟩ : ∃ n p ok, Plain.getNum xs (a : Int) = (n, p, ok) := ⟨_, _, _, rfl⟩
  rw [hn] at hg hc
  simp only at hg hc
  obtain ⟨rfl, hc⟩ := hc
  obtain ⟨q', rfl, hn0, hn9, ha, hd⟩ := Can.getNum_canon hb hn
  obtain ⟨m, rfl⟩ : ∃ m : Nat, n = (m : Int) := ⟨n.toNat, by omega⟩
  simp only [Int.toNat_natCast] at hg
  split at hg
  ·
   rename_i h' x' hi
   split at hg
   ·
    rename_i h4
    simp only [Prod.mk.injEq, and_true] at hg
    obtain ⟨rfl, rfl, rfl⟩ := hg
    obtain ⟨hbd, hk, h1, h2, hs⟩ := body_inBody (fun y hy => hb y (List.mem_of_mem_drop (List.mem_of_mem_take hy))) hi
    have hbl : ((xs.drop q').take m).length = m := by rw [List.length_take, List.length_drop]; omega
    have hd2 : xs.drop a = put h' x' ++ xs.drop (q' + m + 4) := by
     rw [hd]
     unfold put
     rw [← hbd, hbl, ← h4, List.append_assoc, List.append_assoc]
     congr 1
     rw [← List.drop_drop (i := 4), List.take_append_drop, ← List.drop_drop, List.take_append_drop]
    have hl := congrArg List.length hd2
    simp only [List.length_append, List.length_drop] at hl
    refine ⟨q' + m + 4, by omega, by omega, by omega, hk, h1, h2, by rw [← hbd, hbl]; omega, hd2⟩
   ·
    simp [no12] at hg
  ·
   simp [no12] at hg
 ·
  simp [no12] at hg
theorem getC_no {xs : List Int} {a : Int} (h : (getC xs a).2.2.2 = false) : getC xs a = no12 a := by
 unfold getC at h ⊢
 split at h
 ·
  rename_i hc
  rw [if_pos hc]
  split at h
  ·
   rename_i h' x' hi
   split at h
   ·
    cases h
   ·
    rename_i h4
    rw [if_neg h4]
  ·
   rfl
 ·
  rename_i hc
  rw [if_neg hc]
end Go.Proofs.YtfpaichdkddglabGreatDoor.Sr
