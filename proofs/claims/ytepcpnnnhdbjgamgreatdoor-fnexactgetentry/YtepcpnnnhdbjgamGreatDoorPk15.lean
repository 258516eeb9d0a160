/- Texts in one: Ent9, EntR, EntU, EntW. -/
import Derived.Test.YtepcpnnnhdbjgamGreatDoorPk12
import Derived.Test.YtepcpnnnhdbjgamGreatDoorPk14
import Derived.Test.YtepcpnnnhdbjgamGreatDoorPk11
import Derived.Lib.ConvBytes
import Derived.Lib.AtoiErrMem
/- Chapter 5, the specification's side: an entry read of its text. -/
namespace Go.Proofs.YtepcpnnnhdbjgamGreatDoor.Ent
open Go.RowKit Go.Proofs.YtepcpnnnhdbjgamGreatDoor.Mem Go.Proofs.YtepcpnnnhdbjgamGreatDoor.Laws Go.Proofs.YtepcpnnnhdbjgamGreatDoor.Bytes Go.Proofs.YtepcpnnnhdbjgamGreatDoor.Sha Go.Proofs.YtepcpnnnhdbjgamGreatDoor.Ver Go.Proofs.YtepcpnnnhdbjgamGreatDoor.Mod
set_option linter.unusedVariables false
set_option linter.unusedSimpArgs false

/-- the needs whose names these are -/
def needsOf : List ByteArray → Option (List Nd)
  | [] => some []
  | t :: r => if (pname t).2 = true then (needsOf r).map fun l => (pname t).1 :: l else none
def no5 : Nd × List Nd × Bool := (nil5, [], false)
def get5e (n : Nd) (l : List Nd) : Nd × List Nd × Bool := if entry5 n l = true then (n, l, true) else no5
def get5t (n : Nd) (ts : List ByteArray) : Nd × List Nd × Bool := match needsOf ts with
  | some l => get5e n l
  | none => no5
/-- the entry whose text s is -/
def get5 (s : ByteArray) : Nd × List Nd × Bool :=
  if (Plain.getText (sb s) 0).2.2 = true ∧ (Plain.getTexts (sb s) (Plain.getText (sb s) 0).2.1).2.2 = true ∧ (pname (Plain.getText (sb s) 0).1).2 = true ∧ (Plain.getTexts (sb s) (Plain.getText (sb s) 0).2.1).2.1 = (s.size : Int)
  then get5t (pname (Plain.getText (sb s) 0).1).1 (Plain.getTexts (sb s) (Plain.getText (sb s) 0).2.1).1 else no5

theorem needsOf_app : ∀ (a : List ByteArray) (t : ByteArray), needsOf (a ++ [t]) = match needsOf a with
    | some l => if (pname t).2 = true then some (l ++ [(pname t).1]) else none
    | none => none := by
  intro a
  induction a with
  | nil => intro t; simp [needsOf]
  | cons x r ih =>
    intro t
    simp only [List.cons_append, needsOf, ih]
    split
    · cases needsOf r with
      | none => simp
      | some l => by_cases h : (pname t).2 = true <;> simp [h]
    · rfl
theorem needsOf_len : ∀ (a : List ByteArray) (l : List Nd), needsOf a = some l → l.length = a.length := by
  intro a
  induction a with
  | nil => intro l h; simp [needsOf] at h; subst h; rfl
  | cons x r ih =>
    intro l h
    simp only [needsOf] at h
    split at h
    · cases hn : needsOf r with
      | none => rw [hn] at h; simp at h
      | some q => rw [hn] at h; simp at h; subst h; simp [ih q hn]
    · cases h
theorem needsOf_bad : ∀ (a b : List ByteArray), needsOf a = none → needsOf (a ++ b) = none := by
  intro a
  induction a with
  | nil => intro b h; simp [needsOf] at h
  | cons x r ih =>
    intro b h
    simp only [List.cons_append, needsOf] at h ⊢
    split at h
    · rename_i hx
      rw [if_pos hx]
      have : needsOf r = none := by simpa using h
      rw [ih b this]
      rfl
    · rename_i hx
      rw [if_neg hx]

theorem strBytes (w : World) (s : ByteArray) (hs : s.size ≤ 1000000000000) : ∃ (cap : Nat) (W : World), (convert 9 47 (.string s)).run Tryz.prog w = .ok (.slice (some ⟨w.heap.size, 0, none⟩) s.size cap) W ∧ Sl W (.slice (some ⟨w.heap.size, 0, none⟩) s.size cap) (bs (sb s)) ∧ Below w.heap.size w W := by
  refine ⟨_, _, Lib.run_convert_string_bytes w 9 47 5 s Tryz.underlying9 Tryz.underlying47 Tryz.underlying5, ⟨_, _, by rw [bs_len, sb_len], by rw [bs_len, sb_len]; exact grownCap_ge w s.size 0 5, fun h => (by cases h), fun _ => ⟨w.heap.size, 0, rfl, fun j hj => ?_⟩⟩, Lib.bytesWorld_below w 5 s⟩
  rw [bs_len, sb_len] at hj
  rw [Nat.zero_add, Lib.bytesWorld_cell w 5 s j hj, bs_get]
  have hj2 : j < s.data.toList.length := by simpa using hj
  have hj3 : j < s.data.size := hj
  simp [sb, List.getD]
  rw [Array.getElem?_eq_getElem hj3]
  simp

theorem getText_small (xs : List Int) (at_ : Int) : 0 ≤ (Plain.getText xs at_).2.1 ∧ (Plain.getText xs at_).2.1 ≤ xs.length ∧ (Plain.getText xs at_).1.size ≤ xs.length := by
  obtain ⟨s, p, ok, h⟩ : ∃ s p ok, Plain.getText xs at_ = (s, p, ok) := ⟨_, _, _, rfl⟩
  cases ok
  · unfold Plain.getText at h ⊢
    split at h
    · simp at h
    · rename_i hc
      rw [if_neg hc]
      exact ⟨Int.le_refl _, (by show (0 : Int) ≤ _; omega), Nat.zero_le _⟩
  · have := Plain.getText_bd h
    rw [h]
    simp only
    exact ⟨by omega, by omega, by omega⟩
theorem rd_small (xs : List Int) : ∀ (n : Nat) (p q : Int) (l : List ByteArray), Plain.rd xs n p = some (l, q) → ∀ t ∈ l, t.size ≤ xs.length := by
  intro n
  induction n with
  | zero => intro p q l h t ht; simp [Plain.rd] at h; rw [h.1] at ht; cases ht
  | succ n ih =>
    intro p q l h t ht
    rw [Plain.rd] at h
    split at h
    · rw [Option.map_eq_some_iff] at h
      obtain ⟨⟨l2, q2⟩, h1, h2⟩ := h
      simp only [Prod.mk.injEq] at h2
      rw [← h2.1] at ht
      rcases List.mem_cons.1 ht with rfl | ht
      · exact (getText_small xs p).2.2
      · exact ih _ _ _ h1 t ht
    · simp at h
theorem getTexts_small (xs : List Int) (at_ : Int) : ∀ t ∈ (Plain.getTexts xs at_).1, t.size ≤ xs.length := by
  unfold Plain.getTexts
  split
  · split
    · rename_i l q hr
      exact rd_small xs _ _ _ _ hr
    · intro t ht; cases ht
  · intro t ht; cases ht
theorem pname_size (s : ByteArray) : (pname s).1.path.size ≤ s.size ∧ (pname s).1.pre.size ≤ s.size := by
  have hT := splitT_size 64 s
  unfold pname
  split
  · rename_i x y hxy
    rw [hxy] at hT
    unfold pn
    split
    · exact ⟨hT x (by simp), Nat.le_trans (parseV_size y) (hT y (by simp))⟩
    · exact ⟨Nat.zero_le _, Nat.zero_le _⟩
  · exact ⟨Nat.zero_le _, Nat.zero_le _⟩
theorem infoN5 : (Tryz.prog.info? 46).map (fun i => (i.zero, i.size, i.bytes)) = some (some (.agg #[.string ⟨#[]⟩, .int .i64 0, .int .i64 0, .int .i64 0, .string ⟨#[]⟩]), 5, 56) := by kernel_rfl

/-- how an answer of GetEntry is told -/
def Got (s : ByteArray) (w : World) (e : Ending) (w' : World) : Prop :=
  ∃ v', e = .returned (.tuple #[.agg #[.string (get5 s).1.path, .int .i64 (get5 s).1.a, .int .i64 (get5 s).1.b, .int .i64 (get5 s).1.c, .string (get5 s).1.pre, v'], .bool (get5 s).2.2]) ∧ Od w' w.heap.size w'.heap.size v' (get5 s).2.1 ∧ Below w.heap.size w w'

theorem got_no {s : ByteArray} {w w' : World} (h : get5 s = no5) (hB : Below w.heap.size w w') : Got s w (.returned (.tuple #[.agg (ec nil5 (.slice none 0 0)), .bool false])) w' := by
  refine ⟨.slice none 0 0, ?_, ?_, hB⟩
  · rw [h]; rfl
  · rw [h]; exact On.nil 5 w' _ _ _

set_option maxRecDepth 1000000 in
set_option maxHeartbeats 4000000 in
theorem get_spec5 (w : World) (s : ByteArray) (hs : s.size ≤ 1048576) : Calls Tryz.prog 10 #[.string s] w fun e w' => Got s w e w' := by
  obtain ⟨i0, hi, hz0, hz1, hz2⟩ := info_parts infoN5
  obtain ⟨W0, hW0⟩ : ∃ W0, (w.alloc (.cells #[.string ⟨#[]⟩, .int .i64 0, .int .i64 0, .int .i64 0, .string ⟨#[]⟩, .slice none 0 0] 32)).alloc (.cells #[.string ⟨#[]⟩, .int .i64 0, .int .i64 0, .int .i64 0, .string ⟨#[]⟩, .slice none 0 0] 32) = W0 := ⟨_, rfl⟩
  have hR0 : W0.heap[w.heap.size]? = some (.cells (ec nil5 (.slice none 0 0)) 32 (0, 0)) := by rw [← hW0]; exact heap_alloc2_old w _ _
  have hR1 : W0.heap[w.heap.size + 1]? = some (.cells (ec nil5 (.slice none 0 0)) 32 (0, 0)) := by rw [← hW0]; exact heap_alloc2_new w _ _
  have hB0 : Below w.heap.size w W0 := by rw [← hW0]; exact ((Below.refl _ _).alloc (Nat.le_refl _) _).alloc (by simp) _
  have hz2' : W0.heap.size = w.heap.size + 1 + 1 := by rw [← hW0]; simp
  obtain ⟨cap, W1, hcv, hsl, hB1⟩ := strBytes W0 s (by omega)
  rw [← hW0] at hcv
  have HW0 : Hid _ := hW0
  have HZ0 : Hid (W0.heap.size = w.heap.size + 1 + 1) := hz2'
  have HR0 : Hid _ := rowKeep hR0 hB1
  have HR1 : Hid _ := rowKeep hR1 hB1
  have HB : Hid (Below w.heap.size w W1) := hB0.trans (hB1.mono hB0.size)
  have HSl : Hid _ := hsl
  have q1 := GetT.text_spec W1 _ (sb s) 0 hsl (sb_byt s) (by rw [sb_len]; omega) (by omega) (by omega)
  have g1 := getText_small (sb s) 0
  obtain ⟨nm, p, ok, ht⟩ : ∃ nm p ok, Plain.getText (sb s) 0 = (nm, p, ok) := ⟨_, _, _, rfl⟩
  rw [ht] at q1 g1
  simp only at q1 g1
  have q2 := GetTs.texts_spec W1 _ (sb s) p hsl (sb_byt s) (by rw [sb_len]; omega) (by omega) (by rw [sb_len] at g1; omega)
  unfold GetTs.Done at q2
  have g2 := getTexts_small (sb s) p
  have g3 := Plain.getTexts_len (sb s) p
  obtain ⟨ts, q, is, hts⟩ : ∃ ts q is, Plain.getTexts (sb s) p = (ts, q, is) := ⟨_, _, _, rfl⟩
  rw [hts] at q2 g2 g3
  simp only at q2 g2 g3
  rw [sb_len] at g1 g2
  have q3 : ∀ W, _ := fun W => pname_spec W nm (by omega)
  have g4 := pname_size nm
  obtain ⟨n, good, hn⟩ : ∃ n good, pname nm = (n, good) := ⟨_, _, rfl⟩
  rw [hn] at g4
  simp only [hn] at q3
  simp only at g4
  have HG : Hid (get5 s = if ok = true ∧ is = true ∧ good = true ∧ q = (s.size : Int) then get5t n ts else no5) := by
    show _ = _
    unfold get5
    rw [ht]
    simp only
    rw [hts, hn]
  have HG2 : Hid (∀ t ∈ ts, t.size ≤ s.size) := g2
  clear hW0 hR0 hR1 hB0 hB1 hz2' hsl ht hts hn g2
  rw [HZ0.out] at q1 q2
  go_enter Tryz.func10, Tryz.ntmps10
  go_wp2_with fail
  refine q1.mono ?_
  rintro e w2 ⟨rfl, rfl⟩
  clear q1 hcv HW0 HSl
  go_wp2_with fail
  refine q2.mono ?_
  rintro e w3 ⟨vt, rfl, ot, b3⟩
  have HR0a : Hid _ := rowKeep HR0.out b3
  have HR1a : Hid _ := rowKeep HR1.out b3
  have HBa : Hid (Below w.heap.size w w3) := HB.out.trans (b3.mono HB.out.size)
  have HOt : Hid _ := ot
  clear q2 HR0 HR1 HB b3 ot
  go_wp2_with fail
  refine (q3 _).mono ?_
  rintro e w4 ⟨rfl, b4⟩
  obtain ⟨W5, HW5, HR0, HR1, HB, HS, HRn⟩ : ∃ W5, Hid (w4.alloc (.cells #[.string n.path, .int .i64 n.a, .int .i64 n.b, .int .i64 n.c, .string n.pre] 46) = W5) ∧ Hid (W5.heap[w.heap.size]? = some (.cells (ec nil5 (.slice none 0 0)) 32 (0, 0))) ∧ Hid (W5.heap[w.heap.size + 1]? = some (.cells (ec nil5 (.slice none 0 0)) 32 (0, 0))) ∧ Hid (Below w.heap.size w W5) ∧ Hid (Sl W5 vt (ss ts)) ∧ Hid (Nr W5 w4.heap.size n) :=
    ⟨_, rfl, rowKeep (rowKeep HR0a.out b4) ((Below.refl _ _).alloc (Nat.le_refl _) _), rowKeep (rowKeep HR1a.out b4) ((Below.refl _ _).alloc (Nat.le_refl _) _), (HBa.out.trans (b4.mono HBa.out.size)).alloc (HBa.out.trans (b4.mono HBa.out.size)).size _, (((Mem.Own.sl HOt.out).later b4).later ((Below.refl _ _).alloc (Nat.le_refl _) _)), heap_alloc_new w4 _⟩
  have hvt : ∃ ao cap, vt = .slice ao ts.length cap := by
    obtain ⟨ao, c, rfl, _⟩ := HS.out
    exact ⟨ao, c, by rw [ss_len]⟩
  obtain ⟨aot, capt, rfl⟩ := hvt
  have K0 : Hid (w4.heap[w.heap.size]? = some (.cells (ec nil5 (.slice none 0 0)) 32 (0, 0))) := rowKeep HR0a.out b4
  have K1 : Hid (w4.heap[w.heap.size + 1]? = some (.cells (ec nil5 (.slice none 0 0)) 32 (0, 0))) := rowKeep HR1a.out b4
  have KB : Hid (Below w.heap.size w w4) := HBa.out.trans (b4.mono HBa.out.size)
  have KS : Hid (Sl w4 (.slice aot ts.length capt) (ss ts)) := (Mem.Own.sl HOt.out).later b4
  clear q3 HR0a HR1a HBa HOt b4
  by_cases hc : ok = true ∧ is = true ∧ good = true ∧ q = (s.size : Int)
  · obtain ⟨rfl, rfl, rfl, hq⟩ := hc
    have dq : (q != (s.size : Int)) = false := by simpa using hq
    have HG' : Hid (get5 s = get5t n ts) := by show _ = _; rw [HG.out, if_pos ⟨rfl, rfl, rfl, hq⟩]
    clear HG hq
    obtain ⟨n0, n1, n2, n3, n4⟩ := Nr.cells HRn.out
    go_wp2_with fail
    obtain ⟨W6, HW6, H6r, H6b, H6s⟩ : ∃ W6, Hid ((w4.alloc (.cells #[.string n.path, .int .i64 n.a, .int .i64 n.b, .int .i64 n.c, .string n.pre] 46)).alloc (.cells #[.string n.path, .int .i64 n.a, .int .i64 n.b, .int .i64 n.c, .string n.pre, .slice none 0 0] 32) = W6) ∧ Hid (W6.heap[w4.heap.size + 1]? = some (.cells (ec n (.slice none 0 0)) 32 (0, 0))) ∧ Hid (Below w4.heap.size w4 W6) ∧ Hid (W6.heap.size = w4.heap.size + 1 + 1) :=
      ⟨_, rfl, heap_alloc2_new w4 _ _, ((Below.refl _ _).alloc (Nat.le_refl _) _).alloc (by simp) _, (by show _ = _; simp)⟩
    rw [HW6.out]
    clear HR0 HR1 HB HS HRn n0 n1 n2 n3 n4 HW5 HW6 dq
    go_loopw [15] (fun i wr => ∃ (k : Nat) (l : List Nd) (vn : Value), k ≤ ts.length ∧ i = .int .i64 (k : Int) ∧ Hid (l.length = k) ∧ Hid (needsOf (ts.take k) = some l) ∧ Hid (∀ x ∈ l, x.path.size ≤ s.size ∧ x.pre.size ≤ s.size) ∧ wr.heap[w4.heap.size + 1]? = some (.cells (ec n vn) 32 (0, 0)) ∧ W6.heap.size ≤ wr.heap.size ∧ Od wr W6.heap.size wr.heap.size vn l ∧ Below w4.heap.size w4 wr) (fun i _ => ts.length - (intOf i).toNat)
    case atStart => exact ⟨0, [], .slice none 0 0, Nat.zero_le _, rfl, rfl, by show _ = _; simp [needsOf], fun x hx => (by cases hx), H6r.out, Nat.le_refl _, On.nil 5 _ _ _ _, H6b.out⟩
    case round =>
      obtain ⟨k, l, vn, hk, rfl, HLL, HA, HX, hR, hz6, hod, hB⟩ := hrel
      have hl2 : l.length ≤ 200 := by rw [HLL.out]; omega
      have HR0 : Hid (wr.heap[w.heap.size]? = some (.cells (ec nil5 (.slice none 0 0)) 32 (0, 0))) := rowKeep K0.out hB
      have HR1 : Hid (wr.heap[w.heap.size + 1]? = some (.cells (ec nil5 (.slice none 0 0)) 32 (0, 0))) := rowKeep K1.out hB
      have HB : Hid (Below w.heap.size w wr) := KB.out.trans (hB.mono KB.out.size)
      have HSl : Hid (Sl wr (.slice aot ts.length capt) (ss ts)) := KS.out.later hB
      have HRe : Hid (wr.heap[w4.heap.size + 1]? = some (.cells (ec n vn) 32 (0, 0))) := hR
      have HOd : Hid (Od wr W6.heap.size wr.heap.size vn l) := hod
      have HBr : Hid (Below w4.heap.size w4 wr) := hB
      obtain ⟨aov, capv, rfl⟩ := hod.slice
      have h46 : w4.heap.size + 1 + 1 ≤ wr.heap.size := by rw [← H6s.out]; exact hz6
      clear hR hod hB
      by_cases hlt : k < ts.length
      · obtain ⟨t, ht⟩ : ∃ t, ts[k]? = some t := ⟨ts[k], by simp [hlt]⟩
        obtain ⟨b, off, hao, ct⟩ : ∃ b off, aot = some ⟨b, off, none⟩ ∧ wr.cell? ⟨b, off + k, none⟩ = some (.string t) := by
          obtain ⟨ao', c', he, _, _, hr⟩ := HSl.out
          simp only [Value.slice.injEq] at he
          obtain ⟨rfl, _, rfl⟩ := he
          obtain ⟨b, off, rfl, hcell⟩ := hr (by rw [ss_len]; omega)
          exact ⟨b, off, rfl, by rw [hcell k (by rw [ss_len]; exact hlt), ss_get, ht]; rfl⟩
        subst hao
        have htz := HG2.out t (List.mem_of_getElem? ht)
        have q7 : ∀ W, _ := fun W => pname_spec W t (by omega)
        have hxz := pname_size t
        have HT := needsOf_app (ts.take k) t
        rw [HA.out] at HT
        obtain ⟨x, gd, hx⟩ : ∃ x gd, pname t = (x, gd) := ⟨_, _, rfl⟩
        rw [hx] at HT hxz
        simp only [hx] at q7
        simp only at HT hxz
        have hT2 : ts.take (k + 1) = ts.take k ++ [t] := by rw [List.take_add_one, ht]; rfl
        rw [← hT2] at HT
        have HT' : Hid _ := HT
        have HD : Hid (ts = ts.take (k + 1) ++ ts.drop (k + 1)) := (List.take_append_drop _ _).symm
        clear hx ht HT hT2
        go_wp2_with fail
        refine (q7 _).mono ?_
        rintro e w7 ⟨rfl, b7⟩
        obtain ⟨W8, HW8, J0, J1, JB, JR, JO, JBr, Jn, J6⟩ : ∃ W8, Hid (w7.alloc (.cells #[.string x.path, .int .i64 x.a, .int .i64 x.b, .int .i64 x.c, .string x.pre] 46) = W8) ∧ Hid (W8.heap[w.heap.size]? = some (.cells (ec nil5 (.slice none 0 0)) 32 (0, 0))) ∧ Hid (W8.heap[w.heap.size + 1]? = some (.cells (ec nil5 (.slice none 0 0)) 32 (0, 0))) ∧ Hid (Below w.heap.size w W8) ∧ Hid (W8.heap[w4.heap.size + 1]? = some (.cells (ec n (.slice aov l.length capv)) 32 (0, 0))) ∧ Hid (Od W8 W6.heap.size W8.heap.size (.slice aov l.length capv) l) ∧ Hid (Below w4.heap.size w4 W8) ∧ Hid (Nr W8 w7.heap.size x) ∧ Hid (W6.heap.size ≤ W8.heap.size) := by
          have hc : Below wr.heap.size wr (w7.alloc (.cells #[.string x.path, .int .i64 x.a, .int .i64 x.b, .int .i64 x.c, .string x.pre] 46)) := b7.alloc b7.size _
          exact ⟨_, rfl, rowKeep HR0.out hc, rowKeep HR1.out hc, HB.out.trans (hc.mono HB.out.size), rowKeep HRe.out hc, On.grow HOd.out hc, HBr.out.trans (hc.mono HBr.out.size), heap_alloc_new w7 _, Nat.le_trans hz6 hc.size⟩
        clear HR0 HR1 HB HSl HRe HOd HBr b7 q7 ct
        cases gd
        · have HN : Hid (get5 s = no5) := by
            show _ = _
            rw [HG'.out]
            unfold get5t
            rw [HD.out, needsOf_bad _ _ (by rw [HT'.out]; rfl)]
          clear HG' HD HT' HA HX
          have HR0 := J0
          have HR1 := J1
          have HB := JB
          go_wp2_with (first | (rw [HW8.out]; refine wpList_load_row rfl 32 _ rfl (w.heap.size + 1) rfl 32 (ec nil5 (.slice none 0 0)) (0, 0) _ HR1.out Tryz.underlying32 rfl (sizeE nil5 _) ?_) | (refine wpList_load_row rfl 32 _ rfl (w.heap.size + 1) rfl 32 (ec nil5 (.slice none 0 0)) (0, 0) _ HR1.out Tryz.underlying32 rfl (sizeE nil5 _) ?_) | (refine wpList_store_row rfl 32 _ _ rfl w.heap.size (ec nil5 (.slice none 0 0)) rfl rfl 32 _ HR0.out (sizeE nil5 _) rfl (oneE nil5 (one_slice _ _ _)) ?_))
          exact bodyPost_ret (results_row_tmp rfl _ _ w.heap.size 32 (ec nil5 (.slice none 0 0)) (0, 0) _ rfl (setRow_heap _ _ _ _ _ (0, 0) HR0.out) Tryz.underlying32 rfl (sizeE nil5 _)) rfl ⟨.slice none 0 0, by rw [HN.out]; rfl, by rw [HN.out]; exact On.nil 5 _ _ _ _, below_setRow HB.out (Nat.le_refl _) _⟩
        · have HN : Hid (needsOf (ts.take (k + 1)) = some (l ++ [x])) := by show _ = _; rw [HT'.out]; rfl
          have HX2 : Hid (∀ y ∈ l ++ [x], y.path.size ≤ s.size ∧ y.pre.size ≤ s.size) := by
            intro y hy
            rcases List.mem_append.1 hy with h | h
            · exact HX.out y h
            · simp at h; subst h; exact ⟨Nat.le_trans hxz.1 htz, Nat.le_trans hxz.2 htz⟩
          clear HD HT' HA HX
          obtain ⟨x0, x1, x2, x3, x4⟩ := Nr.cells Jn.out
          have k5 : W8.cell? ⟨w4.heap.size + 1, 5, none⟩ = some (.slice aov l.length capv) := row_cells JR.out 5
          rw [← HW8.out] at x0 x1 x2 x3 x4 k5
          have hz8 : W8.heap.size = w7.heap.size + 1 := by rw [← HW8.out]; simp
          have HO9 : Hid (On 5 ((w7.alloc (.cells #[.string x.path, .int .i64 x.a, .int .i64 x.b, .int .i64 x.c, .string x.pre] 46)).alloc (.cells #[.string x.path, .int .i64 x.a, .int .i64 x.b, .int .i64 x.c, .string x.pre] 46)) W6.heap.size ((w7.alloc (.cells #[.string x.path, .int .i64 x.a, .int .i64 x.b, .int .i64 x.c, .string x.pre] 46)).alloc (.cells #[.string x.path, .int .i64 x.a, .int .i64 x.b, .int .i64 x.c, .string x.pre] 46)).heap.size 46 (.slice aov l.length capv) l.length (nds l)) := by
            show On _ _ _ _ _ _ _ _
            rw [HW8.out]
            exact On.alloc JO.out _
          have HL9 : Hid (Sn 5 ((w7.alloc (.cells #[.string x.path, .int .i64 x.a, .int .i64 x.b, .int .i64 x.c, .string x.pre] 46)).alloc (.cells #[.string x.path, .int .i64 x.a, .int .i64 x.b, .int .i64 x.c, .string x.pre] 46)) (.slice (some ⟨w7.heap.size + 1, 0, none⟩) 1 1) 1 (nds [x])) := by
            have := Sn.one 5 (w7.alloc (.cells #[.string x.path, .int .i64 x.a, .int .i64 x.b, .int .i64 x.c, .string x.pre] 46)) #[.string x.path, .int .i64 x.a, .int .i64 x.b, .int .i64 x.c, .string x.pre] 46 rfl
            rw [World.size_alloc] at this
            exact this
          have HB9 : Hid (Below W8.heap.size W8 ((w7.alloc (.cells #[.string x.path, .int .i64 x.a, .int .i64 x.b, .int .i64 x.c, .string x.pre] 46)).alloc (.cells #[.string x.path, .int .i64 x.a, .int .i64 x.b, .int .i64 x.c, .string x.pre] 46))) := by
            show Below _ _ _
            rw [HW8.out]
            exact (Below.refl _ _).alloc (Nat.le_refl _) _
          have c2 : l.length + 1 ≤ maxLen := by unfold maxLen; omega
          have c3 : (l.length + 1) * 56 ≤ 140737488355328 := by omega
          have c4 : W6.heap.size ≤ ((w7.alloc (.cells #[.string x.path, .int .i64 x.a, .int .i64 x.b, .int .i64 x.c, .string x.pre] 46)).alloc (.cells #[.string x.path, .int .i64 x.a, .int .i64 x.b, .int .i64 x.c, .string x.pre] 46)).heap.size := Nat.le_trans J6.out HB9.out.size
          have h6lt : w4.heap.size + 1 < W6.heap.size := by rw [H6s.out]; omega
          clear hz8
          go_wp2_with (at_builtin; go_must (refine wpl_appn 5 (by omega) _ rfl (.tmp 79) (.tmp 81) 30 rfl 46 i0 (.agg #[.string ⟨#[]⟩, .int .i64 0, .int .i64 0, .int .i64 0, .string ⟨#[]⟩]) 56 Tryz.underlying30 hi hz0 hz1 hz2 rfl W6.heap.size (.slice aov l.length capv) l.length (nds l) rfl HO9.out (.slice (some ⟨w7.heap.size + 1, 0, none⟩) 1 1) rfl 1 (nds [x]) HL9.out (nds_one _) c2 c3 c4 ?_); intro v9 w9 ho9 hb9 hg9; obtain ⟨_, a9, cp9, rfl, _⟩ := On.sn ho9; have r9 : w9.heap[w4.heap.size + 1]? = some (.cells (ec n (.slice aov l.length capv)) 32 (0, 0)) := (hb9.block _ h6lt).trans (rowKeep JR.out HB9.out); have k9 : w9.cell? ⟨w4.heap.size + 1, 5, none⟩ = some (.slice aov l.length capv) := row_cells r9 5; have f9 : w9.frozen? ⟨w4.heap.size + 1, 5, none⟩ = false := frozen_of_row w9 _ 5 _ _ r9)
          have hb9' : Below w4.heap.size w4 w9 := (JBr.out.trans (HB9.out.mono JBr.out.size)).trans (hb9.mono (by have := H6s.out; omega))
          have R10 : (w9.setCell ⟨w4.heap.size + 1, 5, none⟩ (.slice a9 (l.length + 1) cp9)).heap[w4.heap.size + 1]? = some (.cells (ec n (.slice a9 (l.length + 1) cp9)) 32 (0, 0)) := by
            rw [heap_setCell_same w9 _ 5 _ _ _ r9]
            rfl
          have B10 : Below w4.heap.size w4 (w9.setCell ⟨w4.heap.size + 1, 5, none⟩ (.slice a9 (l.length + 1) cp9)) := hb9'.setCell (p := ⟨w4.heap.size + 1, 5, none⟩) (by show _ ≤ w4.heap.size + 1; omega) _
          have O10 : Od (w9.setCell ⟨w4.heap.size + 1, 5, none⟩ (.slice a9 (l.length + 1) cp9)) W6.heap.size (w9.setCell ⟨w4.heap.size + 1, 5, none⟩ (.slice a9 (l.length + 1) cp9)).heap.size (.slice a9 (l.length + 1) cp9) (l ++ [x]) := by
            unfold Od
            rw [nds_app, List.length_append]
            refine (On.keep (w := w9) (hi := w9.heap.size) ho9 fun j h1 h2 => heap_setCell_other w9 ⟨w4.heap.size + 1, 5, none⟩ j _ (by show j ≠ w4.heap.size + 1; omega)).mono (Nat.le_refl _) (by simp [World.setCell])
          have Z10 : W6.heap.size ≤ (w9.setCell ⟨w4.heap.size + 1, 5, none⟩ (.slice a9 (l.length + 1) cp9)).heap.size := by
            have := Nat.le_trans c4 hb9.size
            simp [World.setCell]
            exact this
          have L10 : Hid ((l ++ [x]).length = k + 1) := by show _ = _; rw [List.length_append, HLL.out]; rfl
          go_roundw
          case rel => exact ⟨k + 1, l ++ [x], _, by omega, by go_num, L10, HN, HX2, R10, Z10, O10, B10⟩
          case measure => simp [intOf]; omega
      · have HL : Hid (needsOf ts = some l) := by
          show _ = _
          have := HA.out
          rwa [List.take_of_length_le (by omega)] at this
        have hB2 := HB.out
        have q9 := entryok_spec wr n (.slice aov l.length capv) l (Od.sd HOd.out) (by omega) (by omega) (by omega) (fun y hy => by have := HX.out y hy; omega)
        have HG3 : Hid (get5 s = get5e n l) := by show _ = _; rw [HG'.out]; unfold get5t; rw [HL.out]
        obtain ⟨ek, hek⟩ : ∃ ek, entry5 n l = ek := ⟨_, rfl⟩
        rw [hek] at q9
        have HEK : Hid (entry5 n l = ek) := hek
        clear hek HG' HL HA HX hB2
        go_wp2_with (refine wpList_load_row rfl 32 _ rfl (w4.heap.size + 1) rfl 32 (ec n (.slice aov l.length capv)) (0, 0) _ HRe.out Tryz.underlying32 rfl (sizeE n _) ?_)
        refine q9.mono ?_
        rintro e w8 ⟨rfl, b8⟩
        have J0 : Hid _ := rowKeep HR0.out b8
        have J1 : Hid _ := rowKeep HR1.out b8
        have JB : Hid (Below w.heap.size w w8) := HB.out.trans (b8.mono HB.out.size)
        have JR : Hid _ := rowKeep HRe.out b8
        have JO : Hid (Od w8 W6.heap.size w8.heap.size (.slice aov l.length capv) l) := On.grow HOd.out b8
        clear HR0 HR1 HB HRe HOd HBr HSl q9 b8
        have HR0 := J0
        have HR1 := J1
        have HB := JB
        cases ek
        · have HN : Hid (get5 s = no5) := by show _ = _; rw [HG3.out]; unfold get5e; rw [if_neg (by rw [HEK.out]; simp)]
          clear HG3 HEK
          go_wp2_with (first | (refine wpList_load_row rfl 32 _ rfl (w.heap.size + 1) rfl 32 (ec nil5 (.slice none 0 0)) (0, 0) _ HR1.out Tryz.underlying32 rfl (sizeE nil5 _) ?_) | (refine wpList_store_row rfl 32 _ _ rfl w.heap.size (ec nil5 (.slice none 0 0)) rfl rfl 32 _ HR0.out (sizeE nil5 _) rfl (oneE nil5 (one_slice _ _ _)) ?_))
          exact bodyPost_ret (results_row_tmp rfl _ _ w.heap.size 32 (ec nil5 (.slice none 0 0)) (0, 0) _ rfl (setRow_heap _ _ _ _ _ (0, 0) HR0.out) Tryz.underlying32 rfl (sizeE nil5 _)) rfl ⟨.slice none 0 0, by rw [HN.out]; rfl, by rw [HN.out]; exact On.nil 5 _ _ _ _, below_setRow HB.out (Nat.le_refl _) _⟩
        · have HN : Hid (get5 s = (n, l, true)) := by show _ = _; rw [HG3.out]; unfold get5e; rw [if_pos HEK.out]
          clear HG3 HEK
          go_wp2_with (first | (refine wpList_load_row rfl 32 _ rfl (w4.heap.size + 1) rfl 32 (ec n (.slice aov l.length capv)) (0, 0) _ JR.out Tryz.underlying32 rfl (sizeE n _) ?_) | (refine wpList_store_row rfl 32 _ _ rfl w.heap.size (ec n (.slice aov l.length capv)) rfl rfl 32 _ HR0.out (sizeE n _) rfl (oneE n (one_slice _ _ _)) ?_))
          refine bodyPost_ret (results_row_tmp rfl _ _ w.heap.size 32 (ec n (.slice aov l.length capv)) (0, 0) _ rfl (setRow_heap _ _ _ _ _ (0, 0) HR0.out) Tryz.underlying32 rfl (sizeE n _)) rfl ⟨.slice aov l.length capv, by rw [HN.out]; rfl, ?_, below_setRow HB.out (Nat.le_refl _) _⟩
          rw [HN.out]
          have hkb := KB.out.size
          have h6s := H6s.out
          refine On.mono (lo := W6.heap.size) (hi := w8.heap.size) (Od.keep JO.out fun j h1 h2 => setRow_other _ _ _ _ (by omega)) (by omega) (by simp)
  · have HN : Hid (get5 s = no5) := by show _ = _; rw [HG.out, if_neg hc]
    clear HG HRn
    cases ok
    · clear hc
      go_wp2_with (first | (rw [HW5.out]; refine wpList_load_row rfl 32 _ rfl (w.heap.size + 1) rfl 32 (ec nil5 (.slice none 0 0)) (0, 0) _ HR1.out Tryz.underlying32 rfl (sizeE nil5 _) ?_) | (refine wpList_load_row rfl 32 _ rfl (w.heap.size + 1) rfl 32 (ec nil5 (.slice none 0 0)) (0, 0) _ HR1.out Tryz.underlying32 rfl (sizeE nil5 _) ?_) | (refine wpList_store_row rfl 32 _ _ rfl w.heap.size (ec nil5 (.slice none 0 0)) rfl rfl 32 _ HR0.out (sizeE nil5 _) rfl (oneE nil5 (one_slice _ _ _)) ?_))
      exact bodyPost_ret (results_row_tmp rfl _ _ w.heap.size 32 (ec nil5 (.slice none 0 0)) (0, 0) _ rfl (setRow_heap _ _ _ _ _ (0, 0) HR0.out) Tryz.underlying32 rfl (sizeE nil5 _)) rfl ⟨.slice none 0 0, by rw [HN.out]; rfl, by rw [HN.out]; exact On.nil 5 _ _ _ _, below_setRow HB.out (Nat.le_refl _) _⟩
    cases is
    · clear hc
      go_wp2_with (first | (rw [HW5.out]; refine wpList_load_row rfl 32 _ rfl (w.heap.size + 1) rfl 32 (ec nil5 (.slice none 0 0)) (0, 0) _ HR1.out Tryz.underlying32 rfl (sizeE nil5 _) ?_) | (refine wpList_load_row rfl 32 _ rfl (w.heap.size + 1) rfl 32 (ec nil5 (.slice none 0 0)) (0, 0) _ HR1.out Tryz.underlying32 rfl (sizeE nil5 _) ?_) | (refine wpList_store_row rfl 32 _ _ rfl w.heap.size (ec nil5 (.slice none 0 0)) rfl rfl 32 _ HR0.out (sizeE nil5 _) rfl (oneE nil5 (one_slice _ _ _)) ?_))
      exact bodyPost_ret (results_row_tmp rfl _ _ w.heap.size 32 (ec nil5 (.slice none 0 0)) (0, 0) _ rfl (setRow_heap _ _ _ _ _ (0, 0) HR0.out) Tryz.underlying32 rfl (sizeE nil5 _)) rfl ⟨.slice none 0 0, by rw [HN.out]; rfl, by rw [HN.out]; exact On.nil 5 _ _ _ _, below_setRow HB.out (Nat.le_refl _) _⟩
    cases good
    · clear hc
      go_wp2_with (first | (rw [HW5.out]; refine wpList_load_row rfl 32 _ rfl (w.heap.size + 1) rfl 32 (ec nil5 (.slice none 0 0)) (0, 0) _ HR1.out Tryz.underlying32 rfl (sizeE nil5 _) ?_) | (refine wpList_load_row rfl 32 _ rfl (w.heap.size + 1) rfl 32 (ec nil5 (.slice none 0 0)) (0, 0) _ HR1.out Tryz.underlying32 rfl (sizeE nil5 _) ?_) | (refine wpList_store_row rfl 32 _ _ rfl w.heap.size (ec nil5 (.slice none 0 0)) rfl rfl 32 _ HR0.out (sizeE nil5 _) rfl (oneE nil5 (one_slice _ _ _)) ?_))
      exact bodyPost_ret (results_row_tmp rfl _ _ w.heap.size 32 (ec nil5 (.slice none 0 0)) (0, 0) _ rfl (setRow_heap _ _ _ _ _ (0, 0) HR0.out) Tryz.underlying32 rfl (sizeE nil5 _)) rfl ⟨.slice none 0 0, by rw [HN.out]; rfl, by rw [HN.out]; exact On.nil 5 _ _ _ _, below_setRow HB.out (Nat.le_refl _) _⟩
    · have dq : (q != (s.size : Int)) = true := by
        simp
        intro h
        exact hc ⟨rfl, rfl, rfl, h⟩
      clear hc
      go_wp2_with (first | (rw [HW5.out]; refine wpList_load_row rfl 32 _ rfl (w.heap.size + 1) rfl 32 (ec nil5 (.slice none 0 0)) (0, 0) _ HR1.out Tryz.underlying32 rfl (sizeE nil5 _) ?_) | (refine wpList_load_row rfl 32 _ rfl (w.heap.size + 1) rfl 32 (ec nil5 (.slice none 0 0)) (0, 0) _ HR1.out Tryz.underlying32 rfl (sizeE nil5 _) ?_) | (refine wpList_store_row rfl 32 _ _ rfl w.heap.size (ec nil5 (.slice none 0 0)) rfl rfl 32 _ HR0.out (sizeE nil5 _) rfl (oneE nil5 (one_slice _ _ _)) ?_))
      exact bodyPost_ret (results_row_tmp rfl _ _ w.heap.size 32 (ec nil5 (.slice none 0 0)) (0, 0) _ rfl (setRow_heap _ _ _ _ _ (0, 0) HR0.out) Tryz.underlying32 rfl (sizeE nil5 _)) rfl ⟨.slice none 0 0, by rw [HN.out]; rfl, by rw [HN.out]; exact On.nil 5 _ _ _ _, below_setRow HB.out (Nat.le_refl _) _⟩

end Go.Proofs.YtepcpnnnhdbjgamGreatDoor.Ent

/- Chapter 5, the laws' helpers: marks laid into a list of needs, and found there. -/
namespace Go.Proofs.YtepcpnnnhdbjgamGreatDoor.Ent
open Go.RowKit Go.Proofs.YtepcpnnnhdbjgamGreatDoor.Mem Go.Proofs.YtepcpnnnhdbjgamGreatDoor.Laws Go.Proofs.YtepcpnnnhdbjgamGreatDoor.Bytes Go.Proofs.YtepcpnnnhdbjgamGreatDoor.Sha Go.Proofs.YtepcpnnnhdbjgamGreatDoor.Ver Go.Proofs.YtepcpnnnhdbjgamGreatDoor.Mod Go.Proofs.YtepcpnnnhdbjgamGreatDoor.Strs
set_option linter.unusedVariables false
set_option linter.unusedSimpArgs false

/-- marks from k on, as needs -/
def md (k : Nat) : Nd := ⟨mt k, ((k + 1 : Nat) : Int), ((k + 2 : Nat) : Int), ((k + 3 : Nat) : Int), mt (k + 4)⟩
def mds (k n : Nat) : List Nd := (List.range n).map fun i => md (k + 5 * i)
theorem mds_len (k n : Nat) : (mds k n).length = n := by simp [mds]
theorem mds_get (k n j : Nat) (h : j < n) : (mds k n)[j]? = some (md (k + 5 * j)) := by simp [mds, h]
theorem own_keep5 {n m cap lo g : Nat} {e : TypeId} {w w' : World} {cs : List Value} (h : w.ownsRow lo e n (.slice (some ⟨g, 0, none⟩) m cap) m cs) (hk : w'.heap[g]? = w.heap[g]?) : w'.ownsRow lo e n (.slice (some ⟨g, 0, none⟩) m cap) m cs := by
  refine ⟨h.1, ?_⟩
  rcases h.2 with ⟨h', _⟩ | ⟨g', cap', cur, h', hq, hh, r⟩
  · simp at h'
  · simp only [Value.slice.injEq, Option.some.injEq, Addr.mk.injEq, and_true, true_and] at h'
    obtain ⟨rfl, rfl⟩ := h'
    exact .inr ⟨g, cap, cur, rfl, hq, by rw [hk]; exact hh, r⟩

set_option maxRecDepth 1000000 in
set_option maxHeartbeats 4000000 in
theorem mark_needs (w : World) (v : Value) (lo hi : Nat) (l : List Nd) (k0 : Nat) (h : Od w lo hi v l) (hhi : hi ≤ w.heap.size) (hx : l.length ≤ 1000000000) (hk1 : 1 ≤ k0) (hk0 : k0 ≤ 1000000000) :
    Calls Tryz.prog 33 #[v, .int .i64 (k0 : Int)] w fun e w' => e = .returned (.int .i64 ((k0 + 5 * l.length : Nat) : Int)) ∧ Od w' lo hi v (mds k0 l.length) ∧ Apart lo hi w w' := by
  rcases h.1.2 with ⟨rfl, h0⟩ | ⟨g, cap, cur, rfl, hbg, hg, hnc, hcm, hcs, ht⟩
  · have hcs : l = [] := List.eq_nil_of_length_eq_zero h0
    subst hcs
    go_enter Tryz.func33, Tryz.ntmps33
    go_wp2
    refine wp_loop_rounds 1 ?_; rw [rounds_succ]
    go_wp2
    go_ret
    exact ⟨rfl, h, Apart.refl _ _ _⟩
  · have hgh : g < hi := h.2 g rfl
    have hown1 := h.1
    obtain ⟨n, hn⟩ : ∃ n, n = l.length := ⟨_, rfl⟩
    have hown0 : w.ownsRow lo 46 5 (.slice (some ⟨g, 0, none⟩) n cap) n (nds l) := by rw [hn]; exact hown1
    rw [← hn] at hnc hx ⊢
    clear hg hcs ht h hcm cur hown1
    go_enter Tryz.func33, Tryz.ntmps33
    go_wp2
    go_loopw [1, 5] (fun kk i wr => ∃ (k : Nat) (L : List Value), k ≤ n ∧ i = .int .i64 k ∧ kk = .int .i64 ((k0 + 5 * k : Nat) : Int) ∧ L.take (k * 5) = (nds (mds k0 n)).take (k * 5) ∧ wr.ownsRow lo 46 5 (.slice (some ⟨g, 0, none⟩) n cap) n L ∧ Apart lo hi w wr) (fun _ i _ => n - (intOf i).toNat)
    case atStart => exact ⟨0, nds l, Nat.zero_le _, rfl, rfl, by simp, hown0, Apart.refl _ _ _⟩
    case round =>
      obtain ⟨k, L, hk, rfl, rfl, hE0, hownr, hap⟩ := hrel
      have HE : Hid (L.take (k * 5) = (nds (mds k0 n)).take (k * 5)) := hE0
      have HL : Hid (L.length = n * 5) := hownr.1
      clear hE0 hown0 hn
      by_cases hlt : k < n
      · have hglt : g < wr.heap.size := (hownr.lt g rfl).2
        obtain ⟨K, hK⟩ : ∃ K : Nat, K = k0 + 5 * k := ⟨_, rfl⟩
        have HK : Hid (K = k0 + 5 * k) := hK
        have hKb : K ≤ 10000000000 := by omega
        have hK1 : 1 ≤ K := by omega
        rw [← hK]
        clear hK
        have hmt := mark_text wr K (by omega) (by omega)
        have hm4 : ∀ W, _ := fun W => mark_text W (K + 4) (by omega) (by omega)
        go_wp2_with fail
        refine hmt.mono ?_
        rintro e w1 ⟨rfl, hb1⟩
        have hown1 : w1.ownsRow lo 46 5 (.slice (some ⟨g, 0, none⟩) n cap) n L := own_keep5 hownr (hb1.block g hglt)
        have hap1 := hap.grow hb1
        have hc : ∀ j, j < 5 → ∃ u, w1.cell? ⟨g, k * 5 + j, none⟩ = some u := fun j hj => ⟨L[k * 5 + j]'(by have := HL.out; omega), by rw [hown1.cellAt (k * 5 + j) (by omega)]; simp⟩
        obtain ⟨u0, hu0⟩ := hc 0 (by omega)
        obtain ⟨u1, hu1⟩ := hc 1 (by omega)
        obtain ⟨u2, hu2⟩ := hc 2 (by omega)
        obtain ⟨u3, hu3⟩ := hc 3 (by omega)
        obtain ⟨u4, hu4⟩ := hc 4 (by omega)
        rw [Nat.add_zero] at hu0
        have hf0 := hown1.frozenAt (k * 5)
        have hf1 := hown1.frozenAt (k * 5 + 1)
        have hf2 := hown1.frozenAt (k * 5 + 2)
        have hf3 := hown1.frozenAt (k * 5 + 3)
        have hf4 := hown1.frozenAt (k * 5 + 4)
        clear hmt hownr hap hb1 hc
        go_wp2_with fail
        have e4 : (K : Int) + 1 + 1 + 1 + 1 = ((K + 4 : Nat) : Int) := by omega
        have e3 : (K : Int) + 1 + 1 + 1 = ((K + 3 : Nat) : Int) := by omega
        have e2 : (K : Int) + 1 + 1 = ((K + 2 : Nat) : Int) := by omega
        have e1 : (K : Int) + 1 = ((K + 1 : Nat) : Int) := by omega
        rw [e4]
        obtain ⟨W4, hW4⟩ : ∃ W4, W4 = ((((w1.setCell ⟨g, k * 5, none⟩ (.string (mt K))).setCell ⟨g, k * 5 + 1, none⟩ (.int .i64 ((K : Int) + 1))).setCell ⟨g, k * 5 + 1 + 1, none⟩ (.int .i64 ((K : Int) + 1 + 1))).setCell ⟨g, k * 5 + 1 + 2, none⟩ (.int .i64 ((K : Int) + 1 + 1 + 1))) := ⟨_, rfl⟩
        have hown4 : W4.ownsRow lo 46 5 (.slice (some ⟨g, 0, none⟩) n cap) n ((((L.set (k * 5) (.string (mt K))).set (k * 5 + 1) (.int .i64 ((K : Int) + 1))).set (k * 5 + 1 + 1) (.int .i64 ((K : Int) + 1 + 1))).set (k * 5 + 1 + 2) (.int .i64 ((K : Int) + 1 + 1 + 1))) := by
          rw [hW4]
          exact ((((hown1.stored _ _).1.stored _ _).1.stored _ _).1.stored _ _).1
        have hap4 : Apart lo hi w W4 := by
          rw [hW4]
          exact (((hap1.setCell (p := ⟨g, k * 5, none⟩) hbg hgh _).setCell (p := ⟨g, k * 5 + 1, none⟩) hbg hgh _).setCell (p := ⟨g, k * 5 + 1 + 1, none⟩) hbg hgh _).setCell (p := ⟨g, k * 5 + 1 + 2, none⟩) hbg hgh _
        have q4 := hm4 W4
        rw [hW4] at q4
        refine q4.mono ?_
        rw [← hW4]
        rintro e w5 ⟨rfl, hb5⟩
        have hg4 : g < W4.heap.size := (hown4.lt g rfl).2
        have hown5 := own_keep5 hown4 (hb5.block g hg4)
        have hap5 := hap4.grow hb5
        obtain ⟨L5, hL5⟩ : ∃ L5, L5 = ((((L.set (k * 5) (.string (mt K))).set (k * 5 + 1) (.int .i64 ((K : Int) + 1))).set (k * 5 + 1 + 1) (.int .i64 ((K : Int) + 1 + 1))).set (k * 5 + 1 + 2) (.int .i64 ((K : Int) + 1 + 1 + 1))) := ⟨_, rfl⟩
        rw [← hL5] at hown5
        have HL5 : Hid (L5.length = n * 5) := hown5.1
        obtain ⟨u5, hu5⟩ : ∃ u, w5.cell? ⟨g, k * 5 + 1 + 3, none⟩ = some u := ⟨L5[k * 5 + 1 + 3]'(by have := HL5.out; omega), by rw [hown5.cellAt (k * 5 + 1 + 3) (by omega)]; simp⟩
        have hf5 := hown5.frozenAt (k * 5 + 1 + 3)
        have HS : Hid ((w5.setCell ⟨g, k * 5 + 1 + 3, none⟩ (.string (mt (K + 4)))).ownsRow lo 46 5 (.slice (some ⟨g, 0, none⟩) n cap) n (putL L (k * 5) (md K).cs)) := by
          have h := (hown5.stored (k * 5 + 1 + 3) (.string (mt (K + 4)))).1
          rw [hL5, e3, e2, e1] at h
          exact h
        have HA : Hid (Apart lo hi w (w5.setCell ⟨g, k * 5 + 1 + 3, none⟩ (.string (mt (K + 4))))) := hap5.setCell (p := ⟨g, k * 5 + 1 + 3, none⟩) hbg hgh _
        clear q4 hm4 hown1 hown4 hown5 hap1 hap4 hap5 hu0 hu1 hu2 hu3 hu4 hf0 hf1 hf2 hf3 hf4 hb5 hW4 hL5 HL5 e1 e2 e3 e4
        go_wp2
        go_roundw
        case rel =>
          refine ⟨k + 1, putL L (k * 5) (md K).cs, by omega, by go_num, ?_, ?_, HS.out, HA.out⟩
          · have := HK.out
            go_num
          · refine putL_take (by rw [HL.out, nds_len, mds_len]) (by rw [nds_len, mds_len]; omega) HE.out rfl (fun j hj => ?_)
            have hq := mds_get k0 n k hlt
            rw [← HK.out] at hq
            obtain ⟨c0, c1, c2, c3, c4⟩ := nds_get (mds k0 n) k (md K) hq
            match j, hj with
            | 0, _ => exact c0
            | 1, _ => exact c1
            | 2, _ => exact c2
            | 3, _ => exact c3
            | 4, _ => exact c4
        case measure => simp [intOf]; omega
      · go_wp2
        go_ret
        have h1 := HE.out
        have h2 := HL.out
        have hkn : k = n := by omega
        subst hkn
        rw [List.take_of_length_le (by omega), List.take_of_length_le (by rw [nds_len, mds_len]; omega)] at h1
        subst h1
        refine ⟨rfl, ⟨?_, fun g' hg' => by simp [Value.ownBlock] at hg'; omega⟩, hap⟩
        have := hownr
        rw [mds_len]
        exact this

end Go.Proofs.YtepcpnnnhdbjgamGreatDoor.Ent

/- Chapter 5, the laws' helpers: marks found in a list of needs; an entry's marks. -/
namespace Go.Proofs.YtepcpnnnhdbjgamGreatDoor.Ent
open Go.RowKit Go.Proofs.YtepcpnnnhdbjgamGreatDoor.Mem Go.Proofs.YtepcpnnnhdbjgamGreatDoor.Laws Go.Proofs.YtepcpnnnhdbjgamGreatDoor.Bytes Go.Proofs.YtepcpnnnhdbjgamGreatDoor.Sha Go.Proofs.YtepcpnnnhdbjgamGreatDoor.Ver Go.Proofs.YtepcpnnnhdbjgamGreatDoor.Mod Go.Proofs.YtepcpnnnhdbjgamGreatDoor.Strs
set_option linter.unusedVariables false
set_option linter.unusedSimpArgs false

set_option maxRecDepth 1000000 in
set_option maxHeartbeats 4000000 in
theorem held_needs (w : World) (v : Value) (n k0 : Nat) (h : Sd w v (mds k0 n)) (hx : n ≤ 1000000000) (hk1 : 1 ≤ k0) (hk0 : k0 ≤ 1000000000) :
    Calls Tryz.prog 34 #[v, .int .i64 (k0 : Int)] w fun e w' => e = .returned (.int .i64 ((k0 + 5 * n : Nat) : Int)) ∧ Below w.heap.size w w' := by
  have HS : Hid (Sd w v (mds k0 n)) := h
  obtain ⟨_, ao, cap, rfl, hcap, _, _⟩ := h
  have hml := mds_len k0 n
  rw [hml] at HS hcap ⊢
  go_enter Tryz.func34, Tryz.ntmps34
  go_wp2
  go_loopw [1, 5] (fun kk i wr => ∃ k : Nat, k ≤ n ∧ i = .int .i64 (k : Int) ∧ kk = .int .i64 ((k0 + 5 * k : Nat) : Int) ∧ Below w.heap.size w wr) (fun _ i _ => n - (intOf i).toNat)
  case atStart => exact ⟨0, Nat.zero_le _, rfl, rfl, Below.refl _ _⟩
  case round =>
    obtain ⟨k, hk, rfl, rfl, hB⟩ := hrel
    by_cases hlt : k < n
    · obtain ⟨b, off, cap', he, _, c0, c1, c2, c3, c4⟩ := Sd.at (HS.out.later hB) (mds_get k0 n k hlt)
      simp only [Value.slice.injEq] at he
      obtain ⟨rfl, hxx, rfl⟩ := he
      clear hxx
      obtain ⟨K, hK⟩ : ∃ K : Nat, K = k0 + 5 * k := ⟨_, rfl⟩
      have HK : Hid (K = k0 + 5 * k) := hK
      have hKb : K ≤ 10000000000 := by omega
      have hK1 : 1 ≤ K := by omega
      rw [← hK] at c0 c1 c2 c3 c4 ⊢
      unfold md at c0 c1 c2 c3 c4
      simp only at c0 c1 c2 c3 c4
      have e4 : ((K + 4 : Nat) : Int) = (K : Int) + 1 + 1 + 1 + 1 := by omega
      have e3 : ((K + 3 : Nat) : Int) = (K : Int) + 1 + 1 + 1 := by omega
      have e2 : ((K + 2 : Nat) : Int) = (K : Int) + 1 + 1 := by omega
      have e1 : ((K + 1 : Nat) : Int) = (K : Int) + 1 := by omega
      rw [e1] at c1
      rw [e2] at c2
      rw [e3] at c3
      have hm0 : ∀ W, _ := fun W => mark_text W K (by omega) (by omega)
      have hm4 : ∀ W, _ := fun W => mark_text W (K + 4) (by omega) (by omega)
      rw [e4] at hm4
      have n0 : ((mt K).toList != (mt K).toList) = false := by simp
      have n4 : ((mt (K + 4)).toList != (mt (K + 4)).toList) = false := by simp
      have n1 : ((K : Int) + 1 != (K : Int) + 1) = false := by simp
      have n2 : ((K : Int) + 1 + 1 != (K : Int) + 1 + 1) = false := by simp
      have n3 : ((K : Int) + 1 + 1 + 1 != (K : Int) + 1 + 1 + 1) = false := by simp
      clear hK hml e1 e2 e3 e4
      go_wp2_with fail
      refine wp_region_held_drew (S := fun w' => Below w.heap.size w w' ∧ w'.cell? ⟨b, off + k * 5, none⟩ = some (.string (mt K)) ∧ w'.cell? ⟨b, off + k * 5 + 1, none⟩ = some (.int .i64 ((K : Int) + 1)) ∧ w'.cell? ⟨b, off + k * 5 + 1 + 1, none⟩ = some (.int .i64 ((K : Int) + 1 + 1)) ∧ w'.cell? ⟨b, off + k * 5 + 1 + 2, none⟩ = some (.int .i64 ((K : Int) + 1 + 1 + 1)) ∧ w'.cell? ⟨b, off + k * 5 + 1 + 3, none⟩ = some (.string (mt (K + 4)))) (by kernel_rfl) ⟨Below.drew hB, c0, c1, c2, c3, c4⟩ (fun hHeld => ?_)
      (refine wpAnyH_take (i := 0) (v := ?v0x1) rfl (by kernel_rfl) (by kernel_rfl) (by kernel_rfl) (fun _ _ _ h => h) (Or.inl ⟨by rfl, ?hy0x1⟩) (by assumption) ?rest0x1; case hy0x1 => (intro w hSw; (try dsimp only at hSw); go_split_ands; go_simp; (try with_reducible rfl)))
      try simp only [Act.put, List.setIfInBounds_toArray, List.set_cons_zero, List.set_cons_succ, List.getElem_toArray, List.getElem_cons_zero, List.getElem_cons_succ]
      (refine wpAnyH_take (i := 1) (v := ?v1x2) rfl (by kernel_rfl) (by kernel_rfl) (by kernel_rfl) (fun _ _ _ h => h) (Or.inl ⟨by rfl, ?hy1x2⟩) (by assumption) ?rest1x2; case hy1x2 => (intro w hSw; (try dsimp only at hSw); go_split_ands; go_simp; (try with_reducible rfl)))
      try simp only [Act.put, List.setIfInBounds_toArray, List.set_cons_zero, List.set_cons_succ, List.getElem_toArray, List.getElem_cons_zero, List.getElem_cons_succ]
      (refine wpAnyH_take (i := 2) (v := ?v2x3) rfl (by kernel_rfl) (by kernel_rfl) (by kernel_rfl) (fun _ _ _ h => h) (Or.inl ⟨by rfl, ?hy2x3⟩) (by assumption) ?rest2x3; case hy2x3 => (intro w hSw; (try dsimp only at hSw); go_split_ands; go_simp; (try with_reducible rfl)))
      try simp only [Act.put, List.setIfInBounds_toArray, List.set_cons_zero, List.set_cons_succ, List.getElem_toArray, List.getElem_cons_zero, List.getElem_cons_succ]
      (refine wpAnyH_take (i := 3) (v := ?v3x4) rfl (by kernel_rfl) (by kernel_rfl) (by kernel_rfl) (fun _ _ _ h => h) (Or.inl ⟨by rfl, ?hy3x4⟩) (by assumption) ?rest3x4; case hy3x4 => (intro w hSw; (try dsimp only at hSw); go_split_ands; go_simp; (try with_reducible rfl)))
      try simp only [Act.put, List.setIfInBounds_toArray, List.set_cons_zero, List.set_cons_succ, List.getElem_toArray, List.getElem_cons_zero, List.getElem_cons_succ]
      (refine wpAnyH_take (i := 4) (v := ?v4x5) rfl (by kernel_rfl) (by kernel_rfl) (by kernel_rfl) (fun _ _ _ h => h) (Or.inl ⟨by rfl, ?hy4x5⟩) (by assumption) ?rest4x5; case hy4x5 => (intro w hSw; (try dsimp only at hSw); go_split_ands; go_simp; (try with_reducible rfl)))
      try simp only [Act.put, List.setIfInBounds_toArray, List.set_cons_zero, List.set_cons_succ, List.getElem_toArray, List.getElem_cons_zero, List.getElem_cons_succ]
      (refine wpAnyH_take (i := 5) (v := ?v5x6) rfl (by kernel_rfl) (by kernel_rfl) (by kernel_rfl) (fun _ _ _ h => h) (Or.inl ⟨by rfl, ?hy5x6⟩) (by assumption) ?rest5x6; case hy5x6 => (intro w hSw; (try dsimp only at hSw); go_split_ands; go_simp; (try with_reducible rfl)))
      try simp only [Act.put, List.setIfInBounds_toArray, List.set_cons_zero, List.set_cons_succ, List.getElem_toArray, List.getElem_cons_zero, List.getElem_cons_succ]
      refine wpAnyH_ready (rs := [6]) (by kernel_rfl) (by simp) ?_
      refine AllReadyH.cons rfl (fun K hK => ?_) AllReadyH.nil
      go_simp
      refine (hm0 _).mono ?_
      rintro e wa4 ⟨rfl, ba4⟩
      refine hK.out _ _ ?_ (fun hHeld => ?_)
      · obtain ⟨s, s0, s1, s2, s3, s4⟩ := hHeld; exact ⟨s.trans (ba4.mono s.size), Ver.keepCell s0 ba4, Ver.keepCell s1 ba4, Ver.keepCell s2 ba4, Ver.keepCell s3 ba4, Ver.keepCell s4 ba4⟩
      clear hK K
      try simp only [Act.put, List.setIfInBounds_toArray, List.set_cons_zero, List.set_cons_succ, List.getElem_toArray, List.getElem_cons_zero, List.getElem_cons_succ]
      (refine wpAnyH_take (i := 7) (v := ?v7x7) rfl (by kernel_rfl) (by kernel_rfl) (by kernel_rfl) (fun _ _ _ h => h) (Or.inl ⟨by rfl, ?hy7x7⟩) (by assumption) ?rest7x7; case hy7x7 => (intro w hSw; (try dsimp only at hSw); go_split_ands; go_simp; (try with_reducible rfl)))
      try simp only [Act.put, List.setIfInBounds_toArray, List.set_cons_zero, List.set_cons_succ, List.getElem_toArray, List.getElem_cons_zero, List.getElem_cons_succ]
      refine wpAnyH_done (by kernel_rfl) ?_ _
      replace hB : Below w.heap.size w wa4 := hHeld.1
      replace c0 := hHeld.2.1
      replace c1 := hHeld.2.2.1
      replace c2 := hHeld.2.2.2.1
      replace c3 := hHeld.2.2.2.2.1
      replace c4 := hHeld.2.2.2.2.2
      clear hHeld hm0 ba4
      go_wp2_with fail
      refine wp_region_held_drew (S := fun w' => Below w.heap.size w w' ∧ w'.cell? ⟨b, off + k * 5, none⟩ = some (.string (mt K)) ∧ w'.cell? ⟨b, off + k * 5 + 1, none⟩ = some (.int .i64 ((K : Int) + 1)) ∧ w'.cell? ⟨b, off + k * 5 + 1 + 1, none⟩ = some (.int .i64 ((K : Int) + 1 + 1)) ∧ w'.cell? ⟨b, off + k * 5 + 1 + 2, none⟩ = some (.int .i64 ((K : Int) + 1 + 1 + 1)) ∧ w'.cell? ⟨b, off + k * 5 + 1 + 3, none⟩ = some (.string (mt (K + 4)))) (by kernel_rfl) ⟨Below.drew hB, c0, c1, c2, c3, c4⟩ (fun hHeld => ?_)
      (refine wpAnyH_take (i := 0) (v := ?v0x8) rfl (by kernel_rfl) (by kernel_rfl) (by kernel_rfl) (fun _ _ _ h => h) (Or.inl ⟨by rfl, ?hy0x8⟩) (by assumption) ?rest0x8; case hy0x8 => (intro w hSw; (try dsimp only at hSw); go_split_ands; go_simp; (try with_reducible rfl)))
      try simp only [Act.put, List.setIfInBounds_toArray, List.set_cons_zero, List.set_cons_succ, List.getElem_toArray, List.getElem_cons_zero, List.getElem_cons_succ]
      (refine wpAnyH_take (i := 1) (v := ?v1x9) rfl (by kernel_rfl) (by kernel_rfl) (by kernel_rfl) (fun _ _ _ h => h) (Or.inl ⟨by rfl, ?hy1x9⟩) (by assumption) ?rest1x9; case hy1x9 => (intro w hSw; (try dsimp only at hSw); go_split_ands; go_simp; (try with_reducible rfl)))
      try simp only [Act.put, List.setIfInBounds_toArray, List.set_cons_zero, List.set_cons_succ, List.getElem_toArray, List.getElem_cons_zero, List.getElem_cons_succ]
      (refine wpAnyH_take (i := 2) (v := ?v2x10) rfl (by kernel_rfl) (by kernel_rfl) (by kernel_rfl) (fun _ _ _ h => h) (Or.inl ⟨by rfl, ?hy2x10⟩) (by assumption) ?rest2x10; case hy2x10 => (intro w hSw; (try dsimp only at hSw); go_split_ands; go_simp; (try with_reducible rfl)))
      try simp only [Act.put, List.setIfInBounds_toArray, List.set_cons_zero, List.set_cons_succ, List.getElem_toArray, List.getElem_cons_zero, List.getElem_cons_succ]
      (refine wpAnyH_take (i := 3) (v := ?v3x11) rfl (by kernel_rfl) (by kernel_rfl) (by kernel_rfl) (fun _ _ _ h => h) (Or.inl ⟨by rfl, ?hy3x11⟩) (by assumption) ?rest3x11; case hy3x11 => (intro w hSw; (try dsimp only at hSw); go_split_ands; go_simp; (try with_reducible rfl)))
      try simp only [Act.put, List.setIfInBounds_toArray, List.set_cons_zero, List.set_cons_succ, List.getElem_toArray, List.getElem_cons_zero, List.getElem_cons_succ]
      (refine wpAnyH_take (i := 4) (v := ?v4x12) rfl (by kernel_rfl) (by kernel_rfl) (by kernel_rfl) (fun _ _ _ h => h) (Or.inl ⟨by rfl, ?hy4x12⟩) (by assumption) ?rest4x12; case hy4x12 => (intro w hSw; (try dsimp only at hSw); go_split_ands; go_simp; (try with_reducible rfl)))
      try simp only [Act.put, List.setIfInBounds_toArray, List.set_cons_zero, List.set_cons_succ, List.getElem_toArray, List.getElem_cons_zero, List.getElem_cons_succ]
      (refine wpAnyH_take (i := 5) (v := ?v5x13) rfl (by kernel_rfl) (by kernel_rfl) (by kernel_rfl) (fun _ _ _ h => h) (Or.inl ⟨by rfl, ?hy5x13⟩) (by assumption) ?rest5x13; case hy5x13 => (intro w hSw; (try dsimp only at hSw); go_split_ands; go_simp; (try with_reducible rfl)))
      try simp only [Act.put, List.setIfInBounds_toArray, List.set_cons_zero, List.set_cons_succ, List.getElem_toArray, List.getElem_cons_zero, List.getElem_cons_succ]
      (refine wpAnyH_take (i := 6) (v := ?v6x14) rfl (by kernel_rfl) (by kernel_rfl) (by kernel_rfl) (fun _ _ _ h => h) (Or.inl ⟨by rfl, ?hy6x14⟩) (by assumption) ?rest6x14; case hy6x14 => (intro w hSw; (try dsimp only at hSw); go_split_ands; go_simp; (try with_reducible rfl)))
      try simp only [Act.put, List.setIfInBounds_toArray, List.set_cons_zero, List.set_cons_succ, List.getElem_toArray, List.getElem_cons_zero, List.getElem_cons_succ]
      refine wpAnyH_ready (rs := [7]) (by kernel_rfl) (by simp) ?_
      refine AllReadyH.cons rfl (fun K hK => ?_) AllReadyH.nil
      go_simp
      refine (hm4 _).mono ?_
      rintro e wa16 ⟨rfl, ba16⟩
      refine hK.out _ _ ?_ (fun hHeld => ?_)
      · obtain ⟨s, s0, s1, s2, s3, s4⟩ := hHeld; exact ⟨s.trans (ba16.mono s.size), Ver.keepCell s0 ba16, Ver.keepCell s1 ba16, Ver.keepCell s2 ba16, Ver.keepCell s3 ba16, Ver.keepCell s4 ba16⟩
      clear hK K
      try simp only [Act.put, List.setIfInBounds_toArray, List.set_cons_zero, List.set_cons_succ, List.getElem_toArray, List.getElem_cons_zero, List.getElem_cons_succ]
      (refine wpAnyH_take (i := 8) (v := ?v8x15) rfl (by kernel_rfl) (by kernel_rfl) (by kernel_rfl) (fun _ _ _ h => h) (Or.inl ⟨by rfl, ?hy8x15⟩) (by assumption) ?rest8x15; case hy8x15 => (intro w hSw; (try dsimp only at hSw); go_split_ands; go_simp; (try with_reducible rfl)))
      try simp only [Act.put, List.setIfInBounds_toArray, List.set_cons_zero, List.set_cons_succ, List.getElem_toArray, List.getElem_cons_zero, List.getElem_cons_succ]
      refine wpAnyH_done (by kernel_rfl) ?_ _
      have hB9 : Below w.heap.size w wa16 := hHeld.1
      clear hHeld hm4 ba16 c0 c1 c2 c3 c4 hB
      go_wp2
      go_roundw
      case rel =>
        refine ⟨k + 1, by omega, by go_num, ?_, hB9⟩
        have := HK.out
        go_num
      case measure => simp [intOf]; omega
    · go_wp2
      go_ret
      have hkn : k = n := by omega
      subst hkn
      exact ⟨rfl, hB⟩

end Go.Proofs.YtepcpnnnhdbjgamGreatDoor.Ent

/- Chapter 5: the exact law of GetEntry, over a contract of the landed function. -/
namespace Go.Proofs.YtepcpnnnhdbjgamGreatDoor.Ent
open Go.RowKit Go.Proofs.YtepcpnnnhdbjgamGreatDoor.Mem Go.Proofs.YtepcpnnnhdbjgamGreatDoor.Laws Go.Proofs.YtepcpnnnhdbjgamGreatDoor.Bytes Go.Proofs.YtepcpnnnhdbjgamGreatDoor.Sha Go.Proofs.YtepcpnnnhdbjgamGreatDoor.Ver Go.Proofs.YtepcpnnnhdbjgamGreatDoor.Mod Go.Proofs.YtepcpnnnhdbjgamGreatDoor.Strs
set_option linter.unusedVariables false
set_option linter.unusedSimpArgs false

theorem get5_len (s : ByteArray) : (get5 s).2.1.length ≤ 8 := by
  unfold get5
  split
  · unfold get5t
    split
    · unfold get5e
      split
      · rename_i h
        unfold entry5 at h
        simp only [Bool.and_eq_true, decide_eq_true_eq] at h
        exact h.1.2
      · exact Nat.zero_le _
    · exact Nat.zero_le _
  · exact Nat.zero_le _

set_option maxRecDepth 1000000 in
set_option maxHeartbeats 4000000 in
theorem mark_entry (w : World) (n : Nd) (v : Value) (lo hi : Nat) (l : List Nd) (k0 : Nat) (h : Od w lo hi v l) (hhi : hi ≤ w.heap.size) (hx : l.length ≤ 1000000000) (hk1 : 1 ≤ k0) (hk0 : k0 ≤ 1000000000) :
    Calls Tryz.prog 12 #[.agg #[.string n.path, .int .i64 n.a, .int .i64 n.b, .int .i64 n.c, .string n.pre, v], .int .i64 (k0 : Int)] w fun e w' => e = .returned (.int .i64 ((k0 + 5 * l.length : Nat) : Int)) ∧ Od w' lo hi v (mds k0 l.length) ∧ Apart lo hi w w' := by
  have hb : Below w.heap.size w (w.alloc (.cells #[.string n.path, .int .i64 n.a, .int .i64 n.b, .int .i64 n.c, .string n.pre, v] 32)) := (Below.refl _ _).alloc (Nat.le_refl _) _
  have q := mark_needs (w.alloc (.cells #[.string n.path, .int .i64 n.a, .int .i64 n.b, .int .i64 n.c, .string n.pre, v] 32)) v lo hi l k0 (On.later h hb hhi) (Nat.le_trans hhi hb.size) hx hk1 hk0
  have HA : Hid (Apart lo hi w (w.alloc (.cells #[.string n.path, .int .i64 n.a, .int .i64 n.b, .int .i64 n.c, .string n.pre, v] 32))) := (Apart.refl lo hi w).grow hb
  obtain ⟨ao, cap, rfl⟩ := Od.slice h
  obtain ⟨m, hm⟩ : ∃ m : Int, ((k0 + 5 * l.length : Nat) : Int) = m := ⟨_, rfl⟩
  rw [hm] at q ⊢
  clear h hb hm
  go_enter Tryz.func12, Tryz.ntmps12
  go_wp2_with fail
  refine q.mono ?_
  rintro e w1 ⟨rfl, o1, a1⟩
  have HO : Hid _ := o1
  have HA2 : Hid (Apart lo hi w w1) := HA.out.trans a1
  clear q o1 a1 HA
  go_wp2
  go_ret
  exact ⟨rfl, HO.out, HA2.out⟩

set_option maxRecDepth 1000000 in
set_option maxHeartbeats 4000000 in
theorem held_entry (w : World) (n : Nd) (v : Value) (m k0 : Nat) (h : Sd w v (mds k0 m)) (hx : m ≤ 1000000000) (hk1 : 1 ≤ k0) (hk0 : k0 ≤ 1000000000) :
    Calls Tryz.prog 13 #[.agg #[.string n.path, .int .i64 n.a, .int .i64 n.b, .int .i64 n.c, .string n.pre, v], .int .i64 (k0 : Int)] w fun e w' => e = .returned (.int .i64 ((k0 + 5 * m : Nat) : Int)) ∧ Below w.heap.size w w' := by
  have HB : Hid (Below w.heap.size w (w.alloc (.cells #[.string n.path, .int .i64 n.a, .int .i64 n.b, .int .i64 n.c, .string n.pre, v] 32))) := (Below.refl _ _).alloc (Nat.le_refl _) _
  have q := held_needs (w.alloc (.cells #[.string n.path, .int .i64 n.a, .int .i64 n.b, .int .i64 n.c, .string n.pre, v] 32)) v m k0 (h.later HB.out) hx hk1 hk0
  obtain ⟨_, ao, cap, rfl, _⟩ := h
  obtain ⟨r, hr⟩ : ∃ r : Int, ((k0 + 5 * m : Nat) : Int) = r := ⟨_, rfl⟩
  have hr0 : ¬ r < 0 := by omega
  rw [hr] at q ⊢
  clear hr
  go_enter Tryz.func13, Tryz.ntmps13
  go_wp2_with fail
  refine q.mono ?_
  rintro e w1 ⟨rfl, b1⟩
  have HB1 : Hid (Below w.heap.size w w1) := HB.out.trans (b1.mono HB.out.size)
  clear q b1 HB
  go_wp2
  go_ret
  exact ⟨rfl, HB1.out⟩

set_option maxRecDepth 1000000 in
set_option maxHeartbeats 8000000 in
theorem exact_get (w : World) (s : ByteArray) (hm : s.size ≤ maxLen)
    (iG : ∀ W, Below w.heap.size w W → s.size ≤ 1048576 → Calls Tryz.prog 11 #[.string s] W fun e w' => Got s W e w') :
    Calls Tryz.prog 4 #[.string s] w fun e w' => e = .returned (.bool true) ∧ Below w.heap.size w w' := by
  unfold maxLen at hm
  by_cases hbig : 1048576 < s.size
  · have hb : (1048576 : Int) < (s.size : Int) := by omega
    clear hbig iG
    go_enter Tryz.func4, Tryz.ntmps4
    go_wp2
    go_ret
    exact ⟨rfl, Below.refl _ _⟩
  have hb : ¬ (1048576 : Int) < (s.size : Int) := by omega
  have q1 := get_spec5 w s (by omega)
  have jG : ∀ W, Below w.heap.size w W → _ := fun W h => iG W h (by omega)
  have hl8 := get5_len s
  unfold Got at q1 jG
  obtain ⟨n, l, ok, hg⟩ : ∃ n l ok, get5 s = (n, l, ok) := ⟨_, _, _, rfl⟩
  simp only [hg] at q1 jG hl8
  clear hg iG hbig
  go_enter Tryz.func4, Tryz.ntmps4
  go_wp2_with fail
  refine q1.mono ?_
  rintro e W1 ⟨v1, rfl, o1, b1⟩
  obtain ⟨ao1, cp1, rfl⟩ := Od.slice o1
  have hb2 : Below W1.heap.size W1 (W1.alloc (.cells #[.string n.path, .int .i64 n.a, .int .i64 n.b, .int .i64 n.c, .string n.pre, .slice ao1 l.length cp1] 32)) := (Below.refl _ _).alloc (Nat.le_refl _) _
  have z2 : (W1.alloc (.cells #[.string n.path, .int .i64 n.a, .int .i64 n.b, .int .i64 n.c, .string n.pre, .slice ao1 l.length cp1] 32)).heap.size = W1.heap.size + 1 := by simp
  have B2 : Below w.heap.size w (W1.alloc (.cells #[.string n.path, .int .i64 n.a, .int .i64 n.b, .int .i64 n.c, .string n.pre, .slice ao1 l.length cp1] 32)) := b1.trans (hb2.mono b1.size)
  have HR2 : Hid ((W1.alloc (.cells #[.string n.path, .int .i64 n.a, .int .i64 n.b, .int .i64 n.c, .string n.pre, .slice ao1 l.length cp1] 32)).heap[W1.heap.size]? = some (.cells (ec n (.slice ao1 l.length cp1)) 32 (0, 0))) := heap_alloc_new W1 _
  have HO2 : Hid (Od (W1.alloc (.cells #[.string n.path, .int .i64 n.a, .int .i64 n.b, .int .i64 n.c, .string n.pre, .slice ao1 l.length cp1] 32)) w.heap.size W1.heap.size (.slice ao1 l.length cp1) l) := On.later o1 hb2 (Nat.le_refl _)
  have q3 := jG _ B2
  rw [z2] at q3
  have hs1 := b1.size
  obtain ⟨W2, HW2, HZ2, HB2, HR2', HO2'⟩ : ∃ W2, Hid ((W1.alloc (.cells #[.string n.path, .int .i64 n.a, .int .i64 n.b, .int .i64 n.c, .string n.pre, .slice ao1 l.length cp1] 32)) = W2) ∧ Hid (W2.heap.size = W1.heap.size + 1) ∧ Hid (Below w.heap.size w W2) ∧ Hid (W2.heap[W1.heap.size]? = some (.cells (ec n (.slice ao1 l.length cp1)) 32 (0, 0))) ∧ Hid (Od W2 w.heap.size W1.heap.size (.slice ao1 l.length cp1) l) := ⟨_, rfl, z2, B2, HR2.out, HO2.out⟩
  clear q1 HR2 HO2 B2 hb2 z2 o1 b1
  go_wp2_with fail
  refine q3.mono ?_
  rw [HW2.out]
  rintro e W3 ⟨v3, rfl, o3, b3⟩
  rw [← HZ2.out] at b3
  obtain ⟨ao3, cp3, rfl⟩ := Od.slice o3
  have R3 : Hid _ := rowKeep HR2'.out b3
  have O3 : Hid _ := On.later HO2'.out b3 (by have := HZ2.out; omega)
  have B3 : Below w.heap.size w W3 := HB2.out.trans (b3.mono HB2.out.size)
  have hs3 : W1.heap.size + 1 ≤ W3.heap.size := by have := b3.size; have := HZ2.out; omega
  clear q3 HW2 HZ2 HB2 HR2' HO2' b3
  have hb4 : Below W3.heap.size W3 (W3.alloc (.cells #[.string n.path, .int .i64 n.a, .int .i64 n.b, .int .i64 n.c, .string n.pre, .slice ao3 l.length cp3] 32)) := (Below.refl _ _).alloc (Nat.le_refl _) _
  have HB4 : Hid (Below w.heap.size w (W3.alloc (.cells #[.string n.path, .int .i64 n.a, .int .i64 n.b, .int .i64 n.c, .string n.pre, .slice ao3 l.length cp3] 32))) := B3.trans (hb4.mono B3.size)
  have HZ4 : Hid ((W3.alloc (.cells #[.string n.path, .int .i64 n.a, .int .i64 n.b, .int .i64 n.c, .string n.pre, .slice ao3 l.length cp3] 32)).heap.size = W3.heap.size + 1) := by show _ = _; simp
  have HR4 : Hid ((W3.alloc (.cells #[.string n.path, .int .i64 n.a, .int .i64 n.b, .int .i64 n.c, .string n.pre, .slice ao3 l.length cp3] 32)).heap[W1.heap.size]? = some (.cells (ec n (.slice ao1 l.length cp1)) 32 (0, 0))) := rowKeep R3.out hb4
  have HX4 : Hid ((W3.alloc (.cells #[.string n.path, .int .i64 n.a, .int .i64 n.b, .int .i64 n.c, .string n.pre, .slice ao3 l.length cp3] 32)).heap[W3.heap.size]? = some (.cells (ec n (.slice ao3 l.length cp3)) 32 (0, 0))) := heap_alloc_new W3 _
  have HO4 : Hid (Od (W3.alloc (.cells #[.string n.path, .int .i64 n.a, .int .i64 n.b, .int .i64 n.c, .string n.pre, .slice ao3 l.length cp3] 32)) w.heap.size W1.heap.size (.slice ao1 l.length cp1) l) := On.later O3.out hb4 (by omega)
  have HP4 : Hid (Od (W3.alloc (.cells #[.string n.path, .int .i64 n.a, .int .i64 n.b, .int .i64 n.c, .string n.pre, .slice ao3 l.length cp3] 32)) (W1.heap.size + 1) W3.heap.size (.slice ao3 l.length cp3) l) := On.later o3 hb4 (Nat.le_refl _)
  have q5 := eq_entry (W3.alloc (.cells #[.string n.path, .int .i64 n.a, .int .i64 n.b, .int .i64 n.c, .string n.pre, .slice ao3 l.length cp3] 32)) n (.slice ao3 l.length cp3) (.slice ao1 l.length cp1) l HP4.out.sd HO4.out.sd (by omega)
  obtain ⟨W4, HW4, JB4, JZ4, JR4, JX4, JO4, JP4⟩ : ∃ W4, Hid ((W3.alloc (.cells #[.string n.path, .int .i64 n.a, .int .i64 n.b, .int .i64 n.c, .string n.pre, .slice ao3 l.length cp3] 32)) = W4) ∧ Hid (Below w.heap.size w W4) ∧ Hid (W4.heap.size = W3.heap.size + 1) ∧ Hid (W4.heap[W1.heap.size]? = some (.cells (ec n (.slice ao1 l.length cp1)) 32 (0, 0))) ∧ Hid (W4.heap[W3.heap.size]? = some (.cells (ec n (.slice ao3 l.length cp3)) 32 (0, 0))) ∧ Hid (Od W4 w.heap.size W1.heap.size (.slice ao1 l.length cp1) l) ∧ Hid (Od W4 (W1.heap.size + 1) W3.heap.size (.slice ao3 l.length cp3) l) := ⟨_, rfl, HB4.out, HZ4.out, HR4.out, HX4.out, HO4.out, HP4.out⟩
  have hx4 : (W3.alloc (.cells #[.string n.path, .int .i64 n.a, .int .i64 n.b, .int .i64 n.c, .string n.pre, .slice ao3 l.length cp3] 32)).heap[W3.heap.size]? = some (.cells (ec n (.slice ao3 l.length cp3)) 32 (0, 0)) := HX4.out
  have hr4 : (W3.alloc (.cells #[.string n.path, .int .i64 n.a, .int .i64 n.b, .int .i64 n.c, .string n.pre, .slice ao3 l.length cp3] 32)).heap[W1.heap.size]? = some (.cells (ec n (.slice ao1 l.length cp1)) 32 (0, 0)) := HR4.out
  clear HB4 HZ4 HR4 HX4 HO4 HP4 hb4 R3 O3 B3 o3
  have nok : (ok != ok) = false := by simp
  go_wp2_with (first | (refine wpList_load_row rfl 32 _ rfl W3.heap.size rfl 32 (ec n (.slice ao3 l.length cp3)) (0, 0) _ hx4 Tryz.underlying32 rfl (sizeE _ _) ?_) | (refine wpList_load_row rfl 32 _ rfl W1.heap.size rfl 32 (ec n (.slice ao1 l.length cp1)) (0, 0) _ hr4 Tryz.underlying32 rfl (sizeE _ _) ?_))
  refine q5.mono ?_
  rw [HW4.out]
  rintro e W5 ⟨rfl, b5⟩
  have R5 := rowKeep JR4.out b5
  have X5 := rowKeep JX4.out b5
  have O5 : Hid (Od W5 w.heap.size W1.heap.size (.slice ao1 l.length cp1) l) := On.later JO4.out b5 (by have := JZ4.out; omega)
  have P5 : Hid (Od W5 (W1.heap.size + 1) W3.heap.size (.slice ao3 l.length cp3) l) := On.later JP4.out b5 (by have := JZ4.out; omega)
  have B5 : Below w.heap.size w W5 := JB4.out.trans (b5.mono JB4.out.size)
  have z5 : W3.heap.size < W5.heap.size := by have := b5.size; have := JZ4.out; omega
  clear q5 hx4 hr4 HW4 JB4 JZ4 JR4 JX4 JO4 JP4 b5
  have q6 := mark_entry W5 n (.slice ao3 l.length cp3) (W1.heap.size + 1) W3.heap.size l 1 P5.out (by omega) (by omega) (by omega) (by omega)
  go_wp2_with (first | (refine wpList_load_row rfl 32 _ rfl W3.heap.size rfl 32 (ec n (.slice ao3 l.length cp3)) (0, 0) _ X5 Tryz.underlying32 rfl (sizeE _ _) ?_))
  refine q6.mono ?_
  rintro e W6 ⟨rfl, p6, a6⟩
  have R6 : W6.heap[W1.heap.size]? = some (.cells (ec n (.slice ao1 l.length cp1)) 32 (0, 0)) := (a6.block _ (by omega) (by omega)).trans R5
  have X6 : W6.heap[W3.heap.size]? = some (.cells (ec n (.slice ao3 l.length cp3)) 32 (0, 0)) := (a6.block _ z5 (by omega)).trans X5
  have O6 : Hid (Od W6 w.heap.size W1.heap.size (.slice ao1 l.length cp1) l) := On.apart O5.out a6 (.inl (by omega)) (by omega)
  have P6 : Hid (Od W6 (W1.heap.size + 1) W3.heap.size (.slice ao3 l.length cp3) (mds 1 l.length)) := p6
  have B6 : Below w.heap.size w W6 := B5.trans (a6.below (by omega) B5.size)
  have z6 : W3.heap.size < W6.heap.size := by have := a6.size; omega
  have q7 : ∀ W, Sd W (.slice ao3 l.length cp3) (mds 1 l.length) → _ := fun W h => held_entry W n (.slice ao3 l.length cp3) l.length 1 h (by omega) (by omega) (by omega)
  obtain ⟨m, hm5⟩ : ∃ m : Int, ((1 + 5 * l.length : Nat) : Int) = m := ⟨_, rfl⟩
  have hm0 : ¬ m < 0 := by omega
  simp only [hm5] at q7 ⊢
  have nmm : (m != m) = false := by simp
  clear q6 R5 X5 O5 P5 B5 z5 a6 p6 hm5
  go_wp2_with (first | (refine wpList_load_row rfl 32 _ rfl W3.heap.size rfl 32 (ec n (.slice ao3 l.length cp3)) (0, 0) _ X6 Tryz.underlying32 rfl (sizeE _ _) ?_))
  refine (q7 _ P6.out.sd).mono ?_
  rintro e W7 ⟨rfl, b7⟩
  have R7 := rowKeep R6 b7
  have X7 := rowKeep X6 b7
  have O7 : Hid (Od W7 w.heap.size W1.heap.size (.slice ao1 l.length cp1) l) := On.later O6.out b7 (by omega)
  have P7 : Hid (Od W7 (W1.heap.size + 1) W3.heap.size (.slice ao3 l.length cp3) (mds 1 l.length)) := On.later P6.out b7 (by omega)
  have B7 : Below w.heap.size w W7 := B6.trans (b7.mono B6.size)
  have z7 : W3.heap.size < W7.heap.size := by have := b7.size; omega
  clear R6 X6 O6 P6 B6 z6 b7
  go_wp2_with fail
  refine (jG _ B7).mono ?_
  rintro e W8 ⟨v8, rfl, o8, b8⟩
  obtain ⟨ao8, cp8, rfl⟩ := Od.slice o8
  have R8 : Hid _ := rowKeep R7 b8
  have X8 : Hid _ := rowKeep X7 b8
  have O8 : Hid (Od W8 w.heap.size W1.heap.size (.slice ao1 l.length cp1) l) := On.later O7.out b8 (by omega)
  have P8 : Hid (Od W8 (W1.heap.size + 1) W3.heap.size (.slice ao3 l.length cp3) (mds 1 l.length)) := On.later P7.out b8 (by omega)
  have B8 : Below w.heap.size w W8 := B7.trans (b8.mono B7.size)
  have z8 : W3.heap.size < W8.heap.size := by have := b8.size; omega
  clear R7 X7 O7 P7 B7 z7 b8 jG
  have hb9 : Below W8.heap.size W8 (W8.alloc (.cells #[.string n.path, .int .i64 n.a, .int .i64 n.b, .int .i64 n.c, .string n.pre, .slice ao8 l.length cp8] 32)) := (Below.refl _ _).alloc (Nat.le_refl _) _
  have HZ9 : Hid ((W8.alloc (.cells #[.string n.path, .int .i64 n.a, .int .i64 n.b, .int .i64 n.c, .string n.pre, .slice ao8 l.length cp8] 32)).heap.size = W8.heap.size + 1) := by show _ = _; simp
  have hr9 : (W8.alloc (.cells #[.string n.path, .int .i64 n.a, .int .i64 n.b, .int .i64 n.c, .string n.pre, .slice ao8 l.length cp8] 32)).heap[W1.heap.size]? = some (.cells (ec n (.slice ao1 l.length cp1)) 32 (0, 0)) := rowKeep R8.out hb9
  have HX9 : Hid ((W8.alloc (.cells #[.string n.path, .int .i64 n.a, .int .i64 n.b, .int .i64 n.c, .string n.pre, .slice ao8 l.length cp8] 32)).heap[W3.heap.size]? = some (.cells (ec n (.slice ao3 l.length cp3)) 32 (0, 0))) := rowKeep X8.out hb9
  have hy9 : (W8.alloc (.cells #[.string n.path, .int .i64 n.a, .int .i64 n.b, .int .i64 n.c, .string n.pre, .slice ao8 l.length cp8] 32)).heap[W8.heap.size]? = some (.cells (ec n (.slice ao8 l.length cp8)) 32 (0, 0)) := heap_alloc_new W8 _
  have HO9 : Hid (Od (W8.alloc (.cells #[.string n.path, .int .i64 n.a, .int .i64 n.b, .int .i64 n.c, .string n.pre, .slice ao8 l.length cp8] 32)) w.heap.size W1.heap.size (.slice ao1 l.length cp1) l) := On.later O8.out hb9 (by omega)
  have HP9 : Hid (Od (W8.alloc (.cells #[.string n.path, .int .i64 n.a, .int .i64 n.b, .int .i64 n.c, .string n.pre, .slice ao8 l.length cp8] 32)) (W1.heap.size + 1) W3.heap.size (.slice ao3 l.length cp3) (mds 1 l.length)) := On.later P8.out hb9 (by omega)
  have HQ9 : Hid (Sd (W8.alloc (.cells #[.string n.path, .int .i64 n.a, .int .i64 n.b, .int .i64 n.c, .string n.pre, .slice ao8 l.length cp8] 32)) (.slice ao8 l.length cp8) l) := o8.sd.later hb9
  have HB9 : Hid (Below w.heap.size w (W8.alloc (.cells #[.string n.path, .int .i64 n.a, .int .i64 n.b, .int .i64 n.c, .string n.pre, .slice ao8 l.length cp8] 32))) := B8.trans (hb9.mono B8.size)
  have q10 := eq_entry (W8.alloc (.cells #[.string n.path, .int .i64 n.a, .int .i64 n.b, .int .i64 n.c, .string n.pre, .slice ao8 l.length cp8] 32)) n (.slice ao8 l.length cp8) (.slice ao1 l.length cp1) l HQ9.out HO9.out.sd (by omega)
  clear R8 X8 O8 P8 B8 hb9 o8
  go_wp2_with (first | (refine wpList_load_row rfl 32 _ rfl W8.heap.size rfl 32 (ec n (.slice ao8 l.length cp8)) (0, 0) _ hy9 Tryz.underlying32 rfl (sizeE _ _) ?_) | (refine wpList_load_row rfl 32 _ rfl W1.heap.size rfl 32 (ec n (.slice ao1 l.length cp1)) (0, 0) _ hr9 Tryz.underlying32 rfl (sizeE _ _) ?_))
  refine q10.mono ?_
  rintro e W10 ⟨rfl, b10⟩
  have X10 := rowKeep HX9.out b10
  have P10 : Hid (Od W10 (W1.heap.size + 1) W3.heap.size (.slice ao3 l.length cp3) (mds 1 l.length)) := On.later HP9.out b10 (by have := HZ9.out; omega)
  have B10 : Below w.heap.size w W10 := HB9.out.trans (b10.mono HB9.out.size)
  clear q10 HZ9 hr9 HX9 hy9 HO9 HP9 HQ9 HB9 b10
  go_wp2_with (first | (refine wpList_load_row rfl 32 _ rfl W3.heap.size rfl 32 (ec n (.slice ao3 l.length cp3)) (0, 0) _ X10 Tryz.underlying32 rfl (sizeE _ _) ?_))
  refine (q7 _ P10.out.sd).mono ?_
  rintro e W11 ⟨rfl, b11⟩
  have B11 : Hid (Below w.heap.size w W11) := B10.trans (b11.mono B10.size)
  clear q7 X10 P10 B10 b11
  go_wp2
  go_ret
  exact ⟨rfl, B11.out⟩

end Go.Proofs.YtepcpnnnhdbjgamGreatDoor.Ent
