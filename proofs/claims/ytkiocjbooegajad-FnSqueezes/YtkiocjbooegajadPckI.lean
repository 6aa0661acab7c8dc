/- The laws of squeezing, and what the project answers there. -/
import Derived.Test.YtkiocjbooegajadLawSqz
import Derived.Test.YtkiocjbooegajadPckF
