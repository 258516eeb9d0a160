/- Texts in one: Ent9. -/
import Derived.Test.YtljlcelbhlkmcabGreatDoorPk13
import Derived.Lib.ConvBytes
import Derived.Lib.AtoiErrMem
/- Chapter 5, the specification's side: an entry read of its text. -/
namespace Go.Proofs.YtljlcelbhlkmcabGreatDoor.Ent
open Go.RowKit Go.Proofs.YtljlcelbhlkmcabGreatDoor.Mem Go.Proofs.YtljlcelbhlkmcabGreatDoor.Laws Go.Proofs.YtljlcelbhlkmcabGreatDoor.Bytes Go.Proofs.YtljlcelbhlkmcabGreatDoor.Sha Go.Proofs.YtljlcelbhlkmcabGreatDoor.Ver Go.Proofs.YtljlcelbhlkmcabGreatDoor.Mod
set_option linter.unusedVariables false
set_option linter.unusedSimpArgs false

/-- the needs whose names these are -/
def needsOf : List ByteArray → Option (List Nd)
  | [] => some []
  | t :: r => if (pname t).2 = true then (needsOf r).map fun l => (pname t).1 :: l else none
def no5 : Nd × List Nd × Bool := (nil5, [], false)
def get5e (n : Nd) (l : List Nd) : Nd × List Nd × Bool := if entry5 n l = true then (n, l, true) else no5
def get5t (n : Nd) (ts : List ByteArray) : Nd × List Nd × Bool := match needsOf ts with
  | some l => get5e n l
  | none => no5
/-- the entry whose text s is -/
def get5 (s : ByteArray) : Nd × List Nd × Bool :=
  if (Plain.getText (sb s) 0).2.2 = true ∧ (Plain.getTexts (sb s) (Plain.getText (sb s) 0).2.1).2.2 = true ∧ (pname (Plain.getText (sb s) 0).1).2 = true ∧ (Plain.getTexts (sb s) (Plain.getText (sb s) 0).2.1).2.1 = (s.size : Int)
  then get5t (pname (Plain.getText (sb s) 0).1).1 (Plain.getTexts (sb s) (Plain.getText (sb s) 0).2.1).1 else no5

theorem needsOf_app : ∀ (a : List ByteArray) (t : ByteArray), needsOf (a ++ [t]) = match needsOf a with
    | some l => if (pname t).2 = true then some (l ++ [(pname t).1]) else none
    | none => none := by
  intro a
  induction a with
  | nil => intro t; simp [needsOf]
  | cons x r ih =>
    intro t
    simp only [List.cons_append, needsOf, ih]
    split
    · cases needsOf r with
      | none => simp
      | some l => by_cases h : (pname t).2 = true <;> simp [h]
    · rfl
theorem needsOf_len : ∀ (a : List ByteArray) (l : List Nd), needsOf a = some l → l.length = a.length := by
  intro a
  induction a with
  | nil => intro l h; simp [needsOf] at h; subst h; rfl
  | cons x r ih =>
    intro l h
    simp only [needsOf] at h
    split at h
    · cases hn : needsOf r with
      | none => rw [hn] at h; simp at h
      | some q => rw [hn] at h; simp at h; subst h; simp [ih q hn]
    · cases h
theorem needsOf_bad : ∀ (a b : List ByteArray), needsOf a = none → needsOf (a ++ b) = none := by
  intro a
  induction a with
  | nil => intro b h; simp [needsOf] at h
  | cons x r ih =>
    intro b h
    simp only [List.cons_append, needsOf] at h ⊢
    split at h
    · rename_i hx
      rw [if_pos hx]
      have : needsOf r = none := by simpa using h
      rw [ih b this]
      rfl
    · rename_i hx
      rw [if_neg hx]

theorem strBytes (w : World) (s : ByteArray) (hs : s.size ≤ 1000000000000) : ∃ (cap : Nat) (W : World), (convert 9 22 (.string s)).run Tryz.prog w = .ok (.slice (some ⟨w.heap.size, 0, none⟩) s.size cap) W ∧ Sl W (.slice (some ⟨w.heap.size, 0, none⟩) s.size cap) (bs (sb s)) ∧ Below w.heap.size w W := by
  refine ⟨_, _, Lib.run_convert_string_bytes w 9 22 5 s Tryz.underlying9 Tryz.underlying22 Tryz.underlying5, ⟨_, _, by rw [bs_len, sb_len], by rw [bs_len, sb_len]; exact grownCap_ge w s.size 0 5, fun h => (by cases h), fun _ => ⟨w.heap.size, 0, rfl, fun j hj => ?_⟩⟩, Lib.bytesWorld_below w 5 s⟩
  rw [bs_len, sb_len] at hj
  rw [Nat.zero_add, Lib.bytesWorld_cell w 5 s j hj, bs_get]
  have hj2 : j < s.data.toList.length := by simpa using hj
  have hj3 : j < s.data.size := hj
  simp [sb, List.getD]
  rw [Array.getElem?_eq_getElem hj3]
  simp

theorem getText_small (xs : List Int) (at_ : Int) : 0 ≤ (Plain.getText xs at_).2.1 ∧ (Plain.getText xs at_).2.1 ≤ xs.length ∧ (Plain.getText xs at_).1.size ≤ xs.length := by
  obtain ⟨s, p, ok, h⟩ : ∃ s p ok, Plain.getText xs at_ = (s, p, ok) := ⟨_, _, _, rfl⟩
  cases ok
  · unfold Plain.getText at h ⊢
    split at h
    · simp at h
    · rename_i hc
      rw [if_neg hc]
      exact ⟨Int.le_refl _, (by show (0 : Int) ≤ _; omega), Nat.zero_le _⟩
  · have := Plain.getText_bd h
    rw [h]
    simp only
    exact ⟨by omega, by omega, by omega⟩
theorem rd_small (xs : List Int) : ∀ (n : Nat) (p q : Int) (l : List ByteArray), Plain.rd xs n p = some (l, q) → ∀ t ∈ l, t.size ≤ xs.length := by
  intro n
  induction n with
  | zero => intro p q l h t ht; simp [Plain.rd] at h; rw [h.1] at ht; cases ht
  | succ n ih =>
    intro p q l h t ht
    rw [Plain.rd] at h
    split at h
    · rw [Option.map_eq_some_iff] at h
      obtain ⟨⟨l2, q2⟩, h1, h2⟩ := h
      simp only [Prod.mk.injEq] at h2
      rw [← h2.1] at ht
      rcases List.mem_cons.1 ht with rfl | ht
      · exact (getText_small xs p).2.2
      · exact ih _ _ _ h1 t ht
    · simp at h
theorem getTexts_small (xs : List Int) (at_ : Int) : ∀ t ∈ (Plain.getTexts xs at_).1, t.size ≤ xs.length := by
  unfold Plain.getTexts
  split
  · split
    · rename_i l q hr
      exact rd_small xs _ _ _ _ hr
    · intro t ht; cases ht
  · intro t ht; cases ht
theorem pname_size (s : ByteArray) : (pname s).1.path.size ≤ s.size ∧ (pname s).1.pre.size ≤ s.size := by
  have hT := splitT_size 64 s
  unfold pname
  split
  · rename_i x y hxy
    rw [hxy] at hT
    unfold pn
    split
    · exact ⟨hT x (by simp), Nat.le_trans (parseV_size y) (hT y (by simp))⟩
    · exact ⟨Nat.zero_le _, Nat.zero_le _⟩
  · exact ⟨Nat.zero_le _, Nat.zero_le _⟩
theorem infoN5 : (Tryz.prog.info? 35).map (fun i => (i.zero, i.size, i.bytes)) = some (some (.agg #[.string ⟨#[]⟩, .int .i64 0, .int .i64 0, .int .i64 0, .string ⟨#[]⟩]), 5, 56) := by kernel_rfl

/-- how an answer of GetEntry is told -/
def Got (s : ByteArray) (w : World) (e : Ending) (w' : World) : Prop :=
  ∃ v', e = .returned (.tuple #[.agg #[.string (get5 s).1.path, .int .i64 (get5 s).1.a, .int .i64 (get5 s).1.b, .int .i64 (get5 s).1.c, .string (get5 s).1.pre, v'], .bool (get5 s).2.2]) ∧ Od w' w.heap.size w'.heap.size v' (get5 s).2.1 ∧ Below w.heap.size w w'

theorem got_no {s : ByteArray} {w w' : World} (h : get5 s = no5) (hB : Below w.heap.size w w') : Got s w (.returned (.tuple #[.agg (ec nil5 (.slice none 0 0)), .bool false])) w' := by
  refine ⟨.slice none 0 0, ?_, ?_, hB⟩
  · rw [h]; rfl
  · rw [h]; exact On.nil 5 w' _ _ _

set_option maxRecDepth 1000000 in
set_option maxHeartbeats 4000000 in
theorem get_spec5 (w : World) (s : ByteArray) (hs : s.size ≤ 1048576) : Calls Tryz.prog 17 #[.string s] w fun e w' => Got s w e w' := by
  obtain ⟨i0, hi, hz0, hz1, hz2⟩ := info_parts infoN5
  obtain ⟨W0, hW0⟩ : ∃ W0, (w.alloc (.cells #[.string ⟨#[]⟩, .int .i64 0, .int .i64 0, .int .i64 0, .string ⟨#[]⟩, .slice none 0 0] 28)).alloc (.cells #[.string ⟨#[]⟩, .int .i64 0, .int .i64 0, .int .i64 0, .string ⟨#[]⟩, .slice none 0 0] 28) = W0 := ⟨_, rfl⟩
  have hR0 : W0.heap[w.heap.size]? = some (.cells (ec nil5 (.slice none 0 0)) 28 (0, 0)) := by rw [← hW0]; exact heap_alloc2_old w _ _
  have hR1 : W0.heap[w.heap.size + 1]? = some (.cells (ec nil5 (.slice none 0 0)) 28 (0, 0)) := by rw [← hW0]; exact heap_alloc2_new w _ _
  have hB0 : Below w.heap.size w W0 := by rw [← hW0]; exact ((Below.refl _ _).alloc (Nat.le_refl _) _).alloc (by simp) _
  have hz2' : W0.heap.size = w.heap.size + 1 + 1 := by rw [← hW0]; simp
  obtain ⟨cap, W1, hcv, hsl, hB1⟩ := strBytes W0 s (by omega)
  rw [← hW0] at hcv
  have HW0 : Hid _ := hW0
  have HZ0 : Hid (W0.heap.size = w.heap.size + 1 + 1) := hz2'
  have HR0 : Hid _ := rowKeep hR0 hB1
  have HR1 : Hid _ := rowKeep hR1 hB1
  have HB : Hid (Below w.heap.size w W1) := hB0.trans (hB1.mono hB0.size)
  have HSl : Hid _ := hsl
  have q1 := GetT.text_spec W1 _ (sb s) 0 hsl (sb_byt s) (by rw [sb_len]; omega) (by omega) (by omega)
  have g1 := getText_small (sb s) 0
  obtain ⟨nm, p, ok, ht⟩ : ∃ nm p ok, Plain.getText (sb s) 0 = (nm, p, ok) := ⟨_, _, _, rfl⟩
  rw [ht] at q1 g1
  simp only at q1 g1
  have q2 := GetTs.texts_spec W1 _ (sb s) p hsl (sb_byt s) (by rw [sb_len]; omega) (by omega) (by rw [sb_len] at g1; omega)
  unfold GetTs.Done at q2
  have g2 := getTexts_small (sb s) p
  have g3 := Plain.getTexts_len (sb s) p
  obtain ⟨ts, q, is, hts⟩ : ∃ ts q is, Plain.getTexts (sb s) p = (ts, q, is) := ⟨_, _, _, rfl⟩
  rw [hts] at q2 g2 g3
  simp only at q2 g2 g3
  rw [sb_len] at g1 g2
  have q3 : ∀ W, _ := fun W => pname_spec W nm (by omega)
  have g4 := pname_size nm
  obtain ⟨n, good, hn⟩ : ∃ n good, pname nm = (n, good) := ⟨_, _, rfl⟩
  rw [hn] at g4
  simp only [hn] at q3
  simp only at g4
  have HG : Hid (get5 s = if ok = true ∧ is = true ∧ good = true ∧ q = (s.size : Int) then get5t n ts else no5) := by
    show _ = _
    unfold get5
    rw [ht]
    simp only
    rw [hts, hn]
  have HG2 : Hid (∀ t ∈ ts, t.size ≤ s.size) := g2
  clear hW0 hR0 hR1 hB0 hB1 hz2' hsl ht hts hn g2
  rw [HZ0.out] at q1 q2
  go_enter Tryz.func17, Tryz.ntmps17
  go_wp2_with fail
  refine q1.mono ?_
  rintro e w2 ⟨rfl, rfl⟩
  clear q1 hcv HW0 HSl
  go_wp2_with fail
  refine q2.mono ?_
  rintro e w3 ⟨vt, rfl, ot, b3⟩
  have HR0a : Hid _ := rowKeep HR0.out b3
  have HR1a : Hid _ := rowKeep HR1.out b3
  have HBa : Hid (Below w.heap.size w w3) := HB.out.trans (b3.mono HB.out.size)
  have HOt : Hid _ := ot
  clear q2 HR0 HR1 HB b3 ot
  go_wp2_with fail
  refine (q3 _).mono ?_
  rintro e w4 ⟨rfl, b4⟩
  obtain ⟨W5, HW5, HR0, HR1, HB, HS, HRn⟩ : ∃ W5, Hid (w4.alloc (.cells #[.string n.path, .int .i64 n.a, .int .i64 n.b, .int .i64 n.c, .string n.pre] 35) = W5) ∧ Hid (W5.heap[w.heap.size]? = some (.cells (ec nil5 (.slice none 0 0)) 28 (0, 0))) ∧ Hid (W5.heap[w.heap.size + 1]? = some (.cells (ec nil5 (.slice none 0 0)) 28 (0, 0))) ∧ Hid (Below w.heap.size w W5) ∧ Hid (Sl W5 vt (ss ts)) ∧ Hid (Nr W5 w4.heap.size n) :=
    ⟨_, rfl, rowKeep (rowKeep HR0a.out b4) ((Below.refl _ _).alloc (Nat.le_refl _) _), rowKeep (rowKeep HR1a.out b4) ((Below.refl _ _).alloc (Nat.le_refl _) _), (HBa.out.trans (b4.mono HBa.out.size)).alloc (HBa.out.trans (b4.mono HBa.out.size)).size _, (((Mem.Own.sl HOt.out).later b4).later ((Below.refl _ _).alloc (Nat.le_refl _) _)), heap_alloc_new w4 _⟩
  have hvt : ∃ ao cap, vt = .slice ao ts.length cap := by
    obtain ⟨ao, c, rfl, _⟩ := HS.out
    exact ⟨ao, c, by rw [ss_len]⟩
  obtain ⟨aot, capt, rfl⟩ := hvt
  have K0 : Hid (w4.heap[w.heap.size]? = some (.cells (ec nil5 (.slice none 0 0)) 28 (0, 0))) := rowKeep HR0a.out b4
  have K1 : Hid (w4.heap[w.heap.size + 1]? = some (.cells (ec nil5 (.slice none 0 0)) 28 (0, 0))) := rowKeep HR1a.out b4
  have KB : Hid (Below w.heap.size w w4) := HBa.out.trans (b4.mono HBa.out.size)
  have KS : Hid (Sl w4 (.slice aot ts.length capt) (ss ts)) := (Mem.Own.sl HOt.out).later b4
  clear q3 HR0a HR1a HBa HOt b4
  by_cases hc : ok = true ∧ is = true ∧ good = true ∧ q = (s.size : Int)
  · obtain ⟨rfl, rfl, rfl, hq⟩ := hc
    have dq : (q != (s.size : Int)) = false := by simpa using hq
    have HG' : Hid (get5 s = get5t n ts) := by show _ = _; rw [HG.out, if_pos ⟨rfl, rfl, rfl, hq⟩]
    clear HG hq
    obtain ⟨n0, n1, n2, n3, n4⟩ := Nr.cells HRn.out
    go_wp2_with fail
    obtain ⟨W6, HW6, H6r, H6b, H6s⟩ : ∃ W6, Hid ((w4.alloc (.cells #[.string n.path, .int .i64 n.a, .int .i64 n.b, .int .i64 n.c, .string n.pre] 35)).alloc (.cells #[.string n.path, .int .i64 n.a, .int .i64 n.b, .int .i64 n.c, .string n.pre, .slice none 0 0] 28) = W6) ∧ Hid (W6.heap[w4.heap.size + 1]? = some (.cells (ec n (.slice none 0 0)) 28 (0, 0))) ∧ Hid (Below w4.heap.size w4 W6) ∧ Hid (W6.heap.size = w4.heap.size + 1 + 1) :=
      ⟨_, rfl, heap_alloc2_new w4 _ _, ((Below.refl _ _).alloc (Nat.le_refl _) _).alloc (by simp) _, (by show _ = _; simp)⟩
    rw [HW6.out]
    clear HR0 HR1 HB HS HRn n0 n1 n2 n3 n4 HW5 HW6 dq
    go_loopw [15] (fun i wr => ∃ (k : Nat) (l : List Nd) (vn : Value), k ≤ ts.length ∧ i = .int .i64 (k : Int) ∧ Hid (l.length = k) ∧ Hid (needsOf (ts.take k) = some l) ∧ Hid (∀ x ∈ l, x.path.size ≤ s.size ∧ x.pre.size ≤ s.size) ∧ wr.heap[w4.heap.size + 1]? = some (.cells (ec n vn) 28 (0, 0)) ∧ W6.heap.size ≤ wr.heap.size ∧ Od wr W6.heap.size wr.heap.size vn l ∧ Below w4.heap.size w4 wr) (fun i _ => ts.length - (intOf i).toNat)
    case atStart => exact ⟨0, [], .slice none 0 0, Nat.zero_le _, rfl, rfl, by show _ = _; simp [needsOf], fun x hx => (by cases hx), H6r.out, Nat.le_refl _, On.nil 5 _ _ _ _, H6b.out⟩
    case round =>
      obtain ⟨k, l, vn, hk, rfl, HLL, HA, HX, hR, hz6, hod, hB⟩ := hrel
      have hl2 : l.length ≤ 200 := by rw [HLL.out]; omega
      have HR0 : Hid (wr.heap[w.heap.size]? = some (.cells (ec nil5 (.slice none 0 0)) 28 (0, 0))) := rowKeep K0.out hB
      have HR1 : Hid (wr.heap[w.heap.size + 1]? = some (.cells (ec nil5 (.slice none 0 0)) 28 (0, 0))) := rowKeep K1.out hB
      have HB : Hid (Below w.heap.size w wr) := KB.out.trans (hB.mono KB.out.size)
      have HSl : Hid (Sl wr (.slice aot ts.length capt) (ss ts)) := KS.out.later hB
      have HRe : Hid (wr.heap[w4.heap.size + 1]? = some (.cells (ec n vn) 28 (0, 0))) := hR
      have HOd : Hid (Od wr W6.heap.size wr.heap.size vn l) := hod
      have HBr : Hid (Below w4.heap.size w4 wr) := hB
      obtain ⟨aov, capv, rfl⟩ := hod.slice
      have h46 : w4.heap.size + 1 + 1 ≤ wr.heap.size := by rw [← H6s.out]; exact hz6
      clear hR hod hB
      by_cases hlt : k < ts.length
      · obtain ⟨t, ht⟩ : ∃ t, ts[k]? = some t := ⟨ts[k], by simp [hlt]⟩
        obtain ⟨b, off, hao, ct⟩ : ∃ b off, aot = some ⟨b, off, none⟩ ∧ wr.cell? ⟨b, off + k, none⟩ = some (.string t) := by
          obtain ⟨ao', c', he, _, _, hr⟩ := HSl.out
          simp only [Value.slice.injEq] at he
          obtain ⟨rfl, _, rfl⟩ := he
          obtain ⟨b, off, rfl, hcell⟩ := hr (by rw [ss_len]; omega)
          exact ⟨b, off, rfl, by rw [hcell k (by rw [ss_len]; exact hlt), ss_get, ht]; rfl⟩
        subst hao
        have htz := HG2.out t (List.mem_of_getElem? ht)
        have q7 : ∀ W, _ := fun W => pname_spec W t (by omega)
        have hxz := pname_size t
        have HT := needsOf_app (ts.take k) t
        rw [HA.out] at HT
        obtain ⟨x, gd, hx⟩ : ∃ x gd, pname t = (x, gd) := ⟨_, _, rfl⟩
        rw [hx] at HT hxz
        simp only [hx] at q7
        simp only at HT hxz
        have hT2 : ts.take (k + 1) = ts.take k ++ [t] := by rw [List.take_add_one, ht]; rfl
        rw [← hT2] at HT
        have HT' : Hid _ := HT
        have HD : Hid (ts = ts.take (k + 1) ++ ts.drop (k + 1)) := (List.take_append_drop _ _).symm
        clear hx ht HT hT2
        go_wp2_with fail
        refine (q7 _).mono ?_
        rintro e w7 ⟨rfl, b7⟩
        obtain ⟨W8, HW8, J0, J1, JB, JR, JO, JBr, Jn, J6⟩ : ∃ W8, Hid (w7.alloc (.cells #[.string x.path, .int .i64 x.a, .int .i64 x.b, .int .i64 x.c, .string x.pre] 35) = W8) ∧ Hid (W8.heap[w.heap.size]? = some (.cells (ec nil5 (.slice none 0 0)) 28 (0, 0))) ∧ Hid (W8.heap[w.heap.size + 1]? = some (.cells (ec nil5 (.slice none 0 0)) 28 (0, 0))) ∧ Hid (Below w.heap.size w W8) ∧ Hid (W8.heap[w4.heap.size + 1]? = some (.cells (ec n (.slice aov l.length capv)) 28 (0, 0))) ∧ Hid (Od W8 W6.heap.size W8.heap.size (.slice aov l.length capv) l) ∧ Hid (Below w4.heap.size w4 W8) ∧ Hid (Nr W8 w7.heap.size x) ∧ Hid (W6.heap.size ≤ W8.heap.size) := by
          have hc : Below wr.heap.size wr (w7.alloc (.cells #[.string x.path, .int .i64 x.a, .int .i64 x.b, .int .i64 x.c, .string x.pre] 35)) := b7.alloc b7.size _
          exact ⟨_, rfl, rowKeep HR0.out hc, rowKeep HR1.out hc, HB.out.trans (hc.mono HB.out.size), rowKeep HRe.out hc, On.grow HOd.out hc, HBr.out.trans (hc.mono HBr.out.size), heap_alloc_new w7 _, Nat.le_trans hz6 hc.size⟩
        clear HR0 HR1 HB HSl HRe HOd HBr b7 q7 ct
        cases gd
        · have HN : Hid (get5 s = no5) := by
            show _ = _
            rw [HG'.out]
            unfold get5t
            rw [HD.out, needsOf_bad _ _ (by rw [HT'.out]; rfl)]
          clear HG' HD HT' HA HX
          have HR0 := J0
          have HR1 := J1
          have HB := JB
          go_wp2_with (first | (rw [HW8.out]; refine wpList_load_row rfl 28 _ rfl (w.heap.size + 1) rfl 28 (ec nil5 (.slice none 0 0)) (0, 0) _ HR1.out Tryz.underlying28 rfl (sizeE nil5 _) ?_) | (refine wpList_load_row rfl 28 _ rfl (w.heap.size + 1) rfl 28 (ec nil5 (.slice none 0 0)) (0, 0) _ HR1.out Tryz.underlying28 rfl (sizeE nil5 _) ?_) | (refine wpList_store_row rfl 28 _ _ rfl w.heap.size (ec nil5 (.slice none 0 0)) rfl rfl 28 _ HR0.out (sizeE nil5 _) rfl (oneE nil5 (one_slice _ _ _)) ?_))
          exact bodyPost_ret (results_row_tmp rfl _ _ w.heap.size 28 (ec nil5 (.slice none 0 0)) (0, 0) _ rfl (setRow_heap _ _ _ _ _ (0, 0) HR0.out) Tryz.underlying28 rfl (sizeE nil5 _)) rfl ⟨.slice none 0 0, by rw [HN.out]; rfl, by rw [HN.out]; exact On.nil 5 _ _ _ _, below_setRow HB.out (Nat.le_refl _) _⟩
        · have HN : Hid (needsOf (ts.take (k + 1)) = some (l ++ [x])) := by show _ = _; rw [HT'.out]; rfl
          have HX2 : Hid (∀ y ∈ l ++ [x], y.path.size ≤ s.size ∧ y.pre.size ≤ s.size) := by
            intro y hy
            rcases List.mem_append.1 hy with h | h
            · exact HX.out y h
            · simp at h; subst h; exact ⟨Nat.le_trans hxz.1 htz, Nat.le_trans hxz.2 htz⟩
          clear HD HT' HA HX
          obtain ⟨x0, x1, x2, x3, x4⟩ := Nr.cells Jn.out
          have k5 : W8.cell? ⟨w4.heap.size + 1, 5, none⟩ = some (.slice aov l.length capv) := row_cells JR.out 5
          rw [← HW8.out] at x0 x1 x2 x3 x4 k5
          have hz8 : W8.heap.size = w7.heap.size + 1 := by rw [← HW8.out]; simp
          have HO9 : Hid (On 5 ((w7.alloc (.cells #[.string x.path, .int .i64 x.a, .int .i64 x.b, .int .i64 x.c, .string x.pre] 35)).alloc (.cells #[.string x.path, .int .i64 x.a, .int .i64 x.b, .int .i64 x.c, .string x.pre] 35)) W6.heap.size ((w7.alloc (.cells #[.string x.path, .int .i64 x.a, .int .i64 x.b, .int .i64 x.c, .string x.pre] 35)).alloc (.cells #[.string x.path, .int .i64 x.a, .int .i64 x.b, .int .i64 x.c, .string x.pre] 35)).heap.size 35 (.slice aov l.length capv) l.length (nds l)) := by
            show On _ _ _ _ _ _ _ _
            rw [HW8.out]
            exact On.alloc JO.out _
          have HL9 : Hid (Sn 5 ((w7.alloc (.cells #[.string x.path, .int .i64 x.a, .int .i64 x.b, .int .i64 x.c, .string x.pre] 35)).alloc (.cells #[.string x.path, .int .i64 x.a, .int .i64 x.b, .int .i64 x.c, .string x.pre] 35)) (.slice (some ⟨w7.heap.size + 1, 0, none⟩) 1 1) 1 (nds [x])) := by
            have := Sn.one 5 (w7.alloc (.cells #[.string x.path, .int .i64 x.a, .int .i64 x.b, .int .i64 x.c, .string x.pre] 35)) #[.string x.path, .int .i64 x.a, .int .i64 x.b, .int .i64 x.c, .string x.pre] 35 rfl
            rw [World.size_alloc] at this
            exact this
          have HB9 : Hid (Below W8.heap.size W8 ((w7.alloc (.cells #[.string x.path, .int .i64 x.a, .int .i64 x.b, .int .i64 x.c, .string x.pre] 35)).alloc (.cells #[.string x.path, .int .i64 x.a, .int .i64 x.b, .int .i64 x.c, .string x.pre] 35))) := by
            show Below _ _ _
            rw [HW8.out]
            exact (Below.refl _ _).alloc (Nat.le_refl _) _
          have c2 : l.length + 1 ≤ maxLen := by unfold maxLen; omega
          have c3 : (l.length + 1) * 56 ≤ 140737488355328 := by omega
          have c4 : W6.heap.size ≤ ((w7.alloc (.cells #[.string x.path, .int .i64 x.a, .int .i64 x.b, .int .i64 x.c, .string x.pre] 35)).alloc (.cells #[.string x.path, .int .i64 x.a, .int .i64 x.b, .int .i64 x.c, .string x.pre] 35)).heap.size := Nat.le_trans J6.out HB9.out.size
          have h6lt : w4.heap.size + 1 < W6.heap.size := by rw [H6s.out]; omega
          clear hz8
          go_wp2_with (at_builtin; go_must (refine wpl_appn 5 (by omega) _ rfl (.tmp 79) (.tmp 81) 26 rfl 35 i0 (.agg #[.string ⟨#[]⟩, .int .i64 0, .int .i64 0, .int .i64 0, .string ⟨#[]⟩]) 56 Tryz.underlying26 hi hz0 hz1 hz2 rfl W6.heap.size (.slice aov l.length capv) l.length (nds l) rfl HO9.out (.slice (some ⟨w7.heap.size + 1, 0, none⟩) 1 1) rfl 1 (nds [x]) HL9.out (nds_one _) c2 c3 c4 ?_); intro v9 w9 ho9 hb9 hg9; obtain ⟨_, a9, cp9, rfl, _⟩ := On.sn ho9; have r9 : w9.heap[w4.heap.size + 1]? = some (.cells (ec n (.slice aov l.length capv)) 28 (0, 0)) := (hb9.block _ h6lt).trans (rowKeep JR.out HB9.out); have k9 : w9.cell? ⟨w4.heap.size + 1, 5, none⟩ = some (.slice aov l.length capv) := row_cells r9 5; have f9 : w9.frozen? ⟨w4.heap.size + 1, 5, none⟩ = false := frozen_of_row w9 _ 5 _ _ r9)
          have hb9' : Below w4.heap.size w4 w9 := (JBr.out.trans (HB9.out.mono JBr.out.size)).trans (hb9.mono (by have := H6s.out; omega))
          have R10 : (w9.setCell ⟨w4.heap.size + 1, 5, none⟩ (.slice a9 (l.length + 1) cp9)).heap[w4.heap.size + 1]? = some (.cells (ec n (.slice a9 (l.length + 1) cp9)) 28 (0, 0)) := by
            rw [heap_setCell_same w9 _ 5 _ _ _ r9]
            rfl
          have B10 : Below w4.heap.size w4 (w9.setCell ⟨w4.heap.size + 1, 5, none⟩ (.slice a9 (l.length + 1) cp9)) := hb9'.setCell (p := ⟨w4.heap.size + 1, 5, none⟩) (by show _ ≤ w4.heap.size + 1; omega) _
          have O10 : Od (w9.setCell ⟨w4.heap.size + 1, 5, none⟩ (.slice a9 (l.length + 1) cp9)) W6.heap.size (w9.setCell ⟨w4.heap.size + 1, 5, none⟩ (.slice a9 (l.length + 1) cp9)).heap.size (.slice a9 (l.length + 1) cp9) (l ++ [x]) := by
            unfold Od
            rw [nds_app, List.length_append]
            refine (On.keep (w := w9) (hi := w9.heap.size) ho9 fun j h1 h2 => heap_setCell_other w9 ⟨w4.heap.size + 1, 5, none⟩ j _ (by show j ≠ w4.heap.size + 1; omega)).mono (Nat.le_refl _) (by simp [World.setCell])
          have Z10 : W6.heap.size ≤ (w9.setCell ⟨w4.heap.size + 1, 5, none⟩ (.slice a9 (l.length + 1) cp9)).heap.size := by
            have := Nat.le_trans c4 hb9.size
            simp [World.setCell]
            exact this
          have L10 : Hid ((l ++ [x]).length = k + 1) := by show _ = _; rw [List.length_append, HLL.out]; rfl
          go_roundw
          case rel => exact ⟨k + 1, l ++ [x], _, by omega, by go_num, L10, HN, HX2, R10, Z10, O10, B10⟩
          case measure => simp [intOf]; omega
      · have HL : Hid (needsOf ts = some l) := by
          show _ = _
          have := HA.out
          rwa [List.take_of_length_le (by omega)] at this
        have hB2 := HB.out
        have q9 := entryok_spec wr n (.slice aov l.length capv) l (Od.sd HOd.out) (by omega) (by omega) (by omega) (fun y hy => by have := HX.out y hy; omega)
        have HG3 : Hid (get5 s = get5e n l) := by show _ = _; rw [HG'.out]; unfold get5t; rw [HL.out]
        obtain ⟨ek, hek⟩ : ∃ ek, entry5 n l = ek := ⟨_, rfl⟩
        rw [hek] at q9
        have HEK : Hid (entry5 n l = ek) := hek
        clear hek HG' HL HA HX hB2
        go_wp2_with (refine wpList_load_row rfl 28 _ rfl (w4.heap.size + 1) rfl 28 (ec n (.slice aov l.length capv)) (0, 0) _ HRe.out Tryz.underlying28 rfl (sizeE n _) ?_)
        refine q9.mono ?_
        rintro e w8 ⟨rfl, b8⟩
        have J0 : Hid _ := rowKeep HR0.out b8
        have J1 : Hid _ := rowKeep HR1.out b8
        have JB : Hid (Below w.heap.size w w8) := HB.out.trans (b8.mono HB.out.size)
        have JR : Hid _ := rowKeep HRe.out b8
        have JO : Hid (Od w8 W6.heap.size w8.heap.size (.slice aov l.length capv) l) := On.grow HOd.out b8
        clear HR0 HR1 HB HRe HOd HBr HSl q9 b8
        have HR0 := J0
        have HR1 := J1
        have HB := JB
        cases ek
        · have HN : Hid (get5 s = no5) := by show _ = _; rw [HG3.out]; unfold get5e; rw [if_neg (by rw [HEK.out]; simp)]
          clear HG3 HEK
          go_wp2_with (first | (refine wpList_load_row rfl 28 _ rfl (w.heap.size + 1) rfl 28 (ec nil5 (.slice none 0 0)) (0, 0) _ HR1.out Tryz.underlying28 rfl (sizeE nil5 _) ?_) | (refine wpList_store_row rfl 28 _ _ rfl w.heap.size (ec nil5 (.slice none 0 0)) rfl rfl 28 _ HR0.out (sizeE nil5 _) rfl (oneE nil5 (one_slice _ _ _)) ?_))
          exact bodyPost_ret (results_row_tmp rfl _ _ w.heap.size 28 (ec nil5 (.slice none 0 0)) (0, 0) _ rfl (setRow_heap _ _ _ _ _ (0, 0) HR0.out) Tryz.underlying28 rfl (sizeE nil5 _)) rfl ⟨.slice none 0 0, by rw [HN.out]; rfl, by rw [HN.out]; exact On.nil 5 _ _ _ _, below_setRow HB.out (Nat.le_refl _) _⟩
        · have HN : Hid (get5 s = (n, l, true)) := by show _ = _; rw [HG3.out]; unfold get5e; rw [if_pos HEK.out]
          clear HG3 HEK
          go_wp2_with (first | (refine wpList_load_row rfl 28 _ rfl (w4.heap.size + 1) rfl 28 (ec n (.slice aov l.length capv)) (0, 0) _ JR.out Tryz.underlying28 rfl (sizeE n _) ?_) | (refine wpList_store_row rfl 28 _ _ rfl w.heap.size (ec n (.slice aov l.length capv)) rfl rfl 28 _ HR0.out (sizeE n _) rfl (oneE n (one_slice _ _ _)) ?_))
          refine bodyPost_ret (results_row_tmp rfl _ _ w.heap.size 28 (ec n (.slice aov l.length capv)) (0, 0) _ rfl (setRow_heap _ _ _ _ _ (0, 0) HR0.out) Tryz.underlying28 rfl (sizeE n _)) rfl ⟨.slice aov l.length capv, by rw [HN.out]; rfl, ?_, below_setRow HB.out (Nat.le_refl _) _⟩
          rw [HN.out]
          have hkb := KB.out.size
          have h6s := H6s.out
          refine On.mono (lo := W6.heap.size) (hi := w8.heap.size) (Od.keep JO.out fun j h1 h2 => setRow_other _ _ _ _ (by omega)) (by omega) (by simp)
  · have HN : Hid (get5 s = no5) := by show _ = _; rw [HG.out, if_neg hc]
    clear HG HRn
    cases ok
    · clear hc
      go_wp2_with (first | (rw [HW5.out]; refine wpList_load_row rfl 28 _ rfl (w.heap.size + 1) rfl 28 (ec nil5 (.slice none 0 0)) (0, 0) _ HR1.out Tryz.underlying28 rfl (sizeE nil5 _) ?_) | (refine wpList_load_row rfl 28 _ rfl (w.heap.size + 1) rfl 28 (ec nil5 (.slice none 0 0)) (0, 0) _ HR1.out Tryz.underlying28 rfl (sizeE nil5 _) ?_) | (refine wpList_store_row rfl 28 _ _ rfl w.heap.size (ec nil5 (.slice none 0 0)) rfl rfl 28 _ HR0.out (sizeE nil5 _) rfl (oneE nil5 (one_slice _ _ _)) ?_))
      exact bodyPost_ret (results_row_tmp rfl _ _ w.heap.size 28 (ec nil5 (.slice none 0 0)) (0, 0) _ rfl (setRow_heap _ _ _ _ _ (0, 0) HR0.out) Tryz.underlying28 rfl (sizeE nil5 _)) rfl ⟨.slice none 0 0, by rw [HN.out]; rfl, by rw [HN.out]; exact On.nil 5 _ _ _ _, below_setRow HB.out (Nat.le_refl _) _⟩
    cases is
    · clear hc
      go_wp2_with (first | (rw [HW5.out]; refine wpList_load_row rfl 28 _ rfl (w.heap.size + 1) rfl 28 (ec nil5 (.slice none 0 0)) (0, 0) _ HR1.out Tryz.underlying28 rfl (sizeE nil5 _) ?_) | (refine wpList_load_row rfl 28 _ rfl (w.heap.size + 1) rfl 28 (ec nil5 (.slice none 0 0)) (0, 0) _ HR1.out Tryz.underlying28 rfl (sizeE nil5 _) ?_) | (refine wpList_store_row rfl 28 _ _ rfl w.heap.size (ec nil5 (.slice none 0 0)) rfl rfl 28 _ HR0.out (sizeE nil5 _) rfl (oneE nil5 (one_slice _ _ _)) ?_))
      exact bodyPost_ret (results_row_tmp rfl _ _ w.heap.size 28 (ec nil5 (.slice none 0 0)) (0, 0) _ rfl (setRow_heap _ _ _ _ _ (0, 0) HR0.out) Tryz.underlying28 rfl (sizeE nil5 _)) rfl ⟨.slice none 0 0, by rw [HN.out]; rfl, by rw [HN.out]; exact On.nil 5 _ _ _ _, below_setRow HB.out (Nat.le_refl _) _⟩
    cases good
    · clear hc
      go_wp2_with (first | (rw [HW5.out]; refine wpList_load_row rfl 28 _ rfl (w.heap.size + 1) rfl 28 (ec nil5 (.slice none 0 0)) (0, 0) _ HR1.out Tryz.underlying28 rfl (sizeE nil5 _) ?_) | (refine wpList_load_row rfl 28 _ rfl (w.heap.size + 1) rfl 28 (ec nil5 (.slice none 0 0)) (0, 0) _ HR1.out Tryz.underlying28 rfl (sizeE nil5 _) ?_) | (refine wpList_store_row rfl 28 _ _ rfl w.heap.size (ec nil5 (.slice none 0 0)) rfl rfl 28 _ HR0.out (sizeE nil5 _) rfl (oneE nil5 (one_slice _ _ _)) ?_))
      exact bodyPost_ret (results_row_tmp rfl _ _ w.heap.size 28 (ec nil5 (.slice none 0 0)) (0, 0) _ rfl (setRow_heap _ _ _ _ _ (0, 0) HR0.out) Tryz.underlying28 rfl (sizeE nil5 _)) rfl ⟨.slice none 0 0, by rw [HN.out]; rfl, by rw [HN.out]; exact On.nil 5 _ _ _ _, below_setRow HB.out (Nat.le_refl _) _⟩
    · have dq : (q != (s.size : Int)) = true := by
        simp
        intro h
        exact hc ⟨rfl, rfl, rfl, h⟩
      clear hc
      go_wp2_with (first | (rw [HW5.out]; refine wpList_load_row rfl 28 _ rfl (w.heap.size + 1) rfl 28 (ec nil5 (.slice none 0 0)) (0, 0) _ HR1.out Tryz.underlying28 rfl (sizeE nil5 _) ?_) | (refine wpList_load_row rfl 28 _ rfl (w.heap.size + 1) rfl 28 (ec nil5 (.slice none 0 0)) (0, 0) _ HR1.out Tryz.underlying28 rfl (sizeE nil5 _) ?_) | (refine wpList_store_row rfl 28 _ _ rfl w.heap.size (ec nil5 (.slice none 0 0)) rfl rfl 28 _ HR0.out (sizeE nil5 _) rfl (oneE nil5 (one_slice _ _ _)) ?_))
      exact bodyPost_ret (results_row_tmp rfl _ _ w.heap.size 28 (ec nil5 (.slice none 0 0)) (0, 0) _ rfl (setRow_heap _ _ _ _ _ (0, 0) HR0.out) Tryz.underlying28 rfl (sizeE nil5 _)) rfl ⟨.slice none 0 0, by rw [HN.out]; rfl, by rw [HN.out]; exact On.nil 5 _ _ _ _, below_setRow HB.out (Nat.le_refl _) _⟩

end Go.Proofs.YtljlcelbhlkmcabGreatDoor.Ent
