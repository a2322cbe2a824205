/- In a seat of doors: the reader of drawn inputs, as the texts of chapter 1 have it. -/
import Derived.Test.YtialoobnjfbboaaDoorTextsW
